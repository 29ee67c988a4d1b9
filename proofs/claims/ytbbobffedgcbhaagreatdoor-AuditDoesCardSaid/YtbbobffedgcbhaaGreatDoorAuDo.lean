/- The law AuditDoes. -/
import Derived.Test.YtbbobffedgcbhaaGreatDoorAuRef
import Derived.Test.YtbbobffedgcbhaaGreatDoorAuHall
namespace Go.Proofs.YtbbobffedgcbhaaGreatDoor
open Go.RowKit
set_option linter.unusedVariables false
set_option maxRecDepth 100000 in
set_option maxHeartbeats 8000000 in
theorem rlsame_any (L : Lg) (A : Option Addr) (n c : Nat) (B : Option Addr) (m k : Nat) (H : Option Addr) (hn hc : Nat) (A2 : Option Addr) (n2 c2 : Nat) (B2 : Option Addr) (m2 k2 : Nat) (H2 : Option Addr) (hn2 hc2 : Nat) (w : World) (h1 : LRdW w L A n B m H hn) (h2 : LRdW w L A2 n2 B2 m2 H2 hn2) :
    Calls Tryz.prog 12 #[lv L A n c B m k H hn hc, lv L A2 n2 c2 B2 m2 k2 H2 hn2 hc2] w fun e w' => e = .returned (.bool true) ∧ Below w.heap.size w w' := by
  obtain ⟨s, p, room, dead, arm, seq, hash, stop⟩ := L
  have hb : Below w.heap.size w ((w.alloc (.cells #[.slice A n c, .slice B m k, .int .i64 room, .bool dead, .int .i64 arm, .int .i64 seq, .slice H hn hc, .bool stop] 26)).alloc (.cells #[.slice A2 n2 c2, .slice B2 m2 k2, .int .i64 room, .bool dead, .int .i64 arm, .int .i64 seq, .slice H2 hn2 hc2, .bool stop] 26)) := (bl_alloc w _).alloc (by simp) _
  have g1 := h1.below hb
  have g2 := h2.below hb
  have cv1 := conv_str (c := hc) g1.rh
  have cv2 := conv_str (c := hc2) g2.rh
  have XS := hide (Dk.rsame_any A n c B m k room dead arm A2 n2 c2 B2 m2 k2 s p _ g1.rs g1.rp g2.rs g2.rp)
  have HB := hide hb
  clear hb g1 g2 h1 h2
  unfold lv Dk.dv at *
  dsimp only at *
  go_enter Tryz.func12, Tryz.ntmps12
  go_wp2_with fail
  refine XS.out.mono ?_
  rintro e w1 ⟨rfl, hb1⟩
  have HB1 := hide (below_more HB.out (Nat.le_refl _) hb1)
  clear hb1 XS cv1 cv2
  go_wp2_with fail
  go_ret
  exact ⟨rfl, HB1.out⟩
set_option maxRecDepth 100000 in
set_option maxHeartbeats 2000000 in
theorem small_yes (A : Option Addr) (n c : Nat) (B : Option Addr) (m k : Nat) (H : Option Addr) (hn hc : Nat) (room arm seq : Int) (dead stop : Bool) (w : World) (h1 : n ≤ 4000) (h2 : m ≤ 4000) (h3 : hn ≤ 100) :
    Calls Tryz.prog 4 #[.agg #[Value.slice A n c, .slice B m k, .int .i64 room, .bool dead, .int .i64 arm, .int .i64 seq, .slice H hn hc, .bool stop]] w fun e w' => e = .returned (.bool true) ∧ Below w.heap.size w w' := by
  have k1 : (n : Int) ≤ 4000 := by omega
  have k2 : (m : Int) ≤ 4000 := by omega
  have k3 : (hn : Int) ≤ 100 := by omega
  have HB := hide (bl_alloc w (.cells #[.slice A n c, .slice B m k, .int .i64 room, .bool dead, .int .i64 arm, .int .i64 seq, .slice H hn hc, .bool stop] 26))
  clear h1 h2 h3
  go_enter Tryz.func4, Tryz.ntmps4
  go_wp2_with fail
  go_ret
  exact ⟨by first | rfl | (simp [k1, k2, k3]), HB.out⟩
set_option maxRecDepth 100000 in
set_option maxHeartbeats 2000000 in
theorem small_no (A : Option Addr) (n c : Nat) (B : Option Addr) (m k : Nat) (H : Option Addr) (hn hc : Nat) (room arm seq : Int) (dead stop : Bool) (w : World) (h : ¬ (n ≤ 4000 ∧ m ≤ 4000 ∧ hn ≤ 100)) :
    Calls Tryz.prog 4 #[.agg #[Value.slice A n c, .slice B m k, .int .i64 room, .bool dead, .int .i64 arm, .int .i64 seq, .slice H hn hc, .bool stop]] w fun e w' => e = .returned (.bool false) ∧ Below w.heap.size w w' := by
  have HB := hide (bl_alloc w (.cells #[.slice A n c, .slice B m k, .int .i64 room, .bool dead, .int .i64 arm, .int .i64 seq, .slice H hn hc, .bool stop] 26))
  have hc3 : (¬ (n : Int) ≤ 4000) ∨ ((n : Int) ≤ 4000 ∧ ¬ (m : Int) ≤ 4000) ∨ ((n : Int) ≤ 4000 ∧ (m : Int) ≤ 4000 ∧ ¬ (hn : Int) ≤ 100) := by omega
  clear h
  rcases hc3 with k1 | ⟨k1, k2⟩ | ⟨k1, k2, k3⟩
  all_goals
    go_enter Tryz.func4, Tryz.ntmps4
    go_wp2_with fail
    go_ret
    exact ⟨by first | rfl | (simp; omega), HB.out⟩
set_option maxRecDepth 100000 in
set_option maxHeartbeats 32000000 in
theorem does_law (L : Lg) (r : Rec) (keep : Int) (A : Option Addr) (n c : Nat) (B : Option Addr) (m k : Nat) (H : Option Addr) (hn hc : Nat) (RA : Option Addr) (rn rc : Nat) (t0 t1 t2 : Addr) (w : World) (hrs : Rd w A n L.s) (hnc : n ≤ c) (hrp : Rd w B m L.p) (hmk : m ≤ k) (hrh : Rd w H hn L.hash) (hhc : hn ≤ hc) (ha : L.arm ≤ 9223372036854775807) (hD : Rd w RA rn r.dig) (hpa : r.path.length ≤ maxLen) (hpb : r.path2.length ≤ maxLen) (hS : Std w) (hT : Tabs w) (hE : Sent t0 t1 t2 w) :
    Calls Tryz.prog 3 #[lv L A n c B m k H hn hc, Rec.v r RA rn rc, .int .i64 keep] w fun e w' => e = .returned (.bool true) ∧ Below w.heap.size w w' := by
  have XHD := hide (fun W (hW : Below w.heap.size w W) => heads_any t0 t1 t2 W (hS.below hW) (hT.below hW) (hE.below hW))
  have HS := hide hS
  have HT := hide hT
  have HE := hide hE
  have HD := hide hD
  have hls := hrs.len
  have hlp := hrp.len
  by_cases hsm : n ≤ 4000 ∧ m ≤ 4000 ∧ hn ≤ 100
  · obtain ⟨hn4, hm4, hh4⟩ := hsm
    have HI := hide (show LogIn w L A n c B m k H hn hc from ⟨hrs, hnc, hrp, hmk, hrh, hhc, by omega, by omega, by omega⟩)
    have XSM := hide (fun W => small_yes A n c B m k H hn hc L.room L.arm L.seq L.dead L.stop W hn4 hm4 hh4)
    have ZLS := hide (show L.s.length ≤ 4000 by omega)
    have ZLP := hide (show L.p.length ≤ 4000 by omega)
    have XAO := hide (fun W (hW : Below w.heap.size w W) => aopen_any L.s L.p L.room L.arm L.dead A n c B m k W (HI.out.below hW).rs hnc (HI.out.below hW).rp hmk (by omega) (by omega) (HS.out.below hW) (HT.out.below hW))
    have XRO := hide (fun W (hW : Below w.heap.size w W) => ropen_any L.s L.p L.room L.arm L.dead A n c B m k W (HI.out.below hW).rs hnc (HI.out.below hW).rp hmk (by omega) (by omega))
    have XAW := hide (fun W (hW : Below w.heap.size w W) => awrite_any L r t0 t1 t2 A n c B m k H hn hc RA rn rc W (HI.out.below hW) ZLS.out ZLP.out ha (rb HD.out hW) (HS.out.below hW) (HT.out.below hW) (HE.out.below hW))
    have XRW := hide (fun W (hW : Below w.heap.size w W) => rwrite_any L r A n c B m k H hn hc RA rn rc W (HI.out.below hW) ZLS.out ZLP.out ha (rb HD.out hW))
    have XAR := hide (fun W (hW : Below w.heap.size w W) => arecover_any L keep A n c B m k H hn hc W (HI.out.below hW) (by have h1 := ZLS.out; have h2 := ZLP.out; omega) (HS.out.below hW) (HT.out.below hW))
    have XRR := hide (fun W (hW : Below w.heap.size w W) => rrecover_any L keep A n c B m k H hn hc W (HI.out.below hW) (by have h1 := ZLS.out; have h2 := ZLP.out; omega))
    have XAK := hide (fun W (hW : Below w.heap.size w W) => acheck_any L A n c B m k H hn hc W (HI.out.below hW) (HS.out.below hW) (HT.out.below hW))
    have XRK := hide (fun W (hW : Below w.heap.size w W) => rlcheck_any L A n c B m k H hn hc W (HI.out.below hW))
    have XAC := hide (fun W (hW : Below w.heap.size w W) => arecords_every L A n c B m k H hn hc W (HI.out.below hW) (HS.out.below hW) (HT.out.below hW))
    have XRC := hide (fun W (hW : Below w.heap.size w W) => rlrecords_any L A n c B m k H hn hc W (HI.out.below hW))
    obtain ⟨RO, hRO⟩ : ∃ x, opR L.s L.p L.room L.dead L.arm = x := ⟨_, rfl⟩
    obtain ⟨RW, hRW⟩ : ∃ x, wrR L r = x := ⟨_, rfl⟩
    obtain ⟨RR, hRR⟩ : ∃ x, reR L keep = x := ⟨_, rfl⟩
    obtain ⟨RK, hRK⟩ : ∃ x, rcR L = x := ⟨_, rfl⟩
    obtain ⟨OKB, hOK⟩ : ∃ x, okL L = x := ⟨_, rfl⟩
    rw [hRO] at XAO XRO
    rw [hRW] at XAW XRW
    rw [hRR] at XAR XRR
    rw [hRK] at XAC XRC
    rw [hOK] at XAK XRK
    have hr20 : (rcR L).length ≤ 1000000 := by
      unfold rcR
      split
      · have h1 := scanB_few L.s
        have h2 := scanB_end L.s
        omega
      · exact Nat.zero_le _
    have ho20 : (opR L.s L.p L.room L.dead L.arm).2.1.length ≤ 1000000 := by
      unfold opR
      split
      · split
        · exact Nat.zero_le _
        · have h1 := scanB_few L.s
          have h2 := scanB_end L.s
          dsimp only
          omega
      · exact Nat.zero_le _
    have hq20 : (reR L keep).2.1.length ≤ 1000000 := by
      unfold reR
      split
      · have h1 := scanB_few (L.s ++ L.p.take (Dk.kpN L.p.length keep))
        have h2 := scanB_end (L.s ++ L.p.take (Dk.kpN L.p.length keep))
        rw [List.length_append, List.length_take] at h2
        dsimp only
        omega
      · exact Nat.zero_le _
    rw [hRK] at hr20
    rw [hRO] at ho20
    rw [hRR] at hq20
    clear hRO hRW hRR hRK hOK hls hlp hrs hrp hrh
    obtain ⟨LO, rO, cO⟩ := RO
    obtain ⟨LW, cW⟩ := RW
    obtain ⟨LR, rR, cR⟩ := RR
    dsimp only at ho20 hq20
    obtain ⟨s, p, room, dead, arm, seq, hash, stop⟩ := L
    obtain ⟨sq, op, pa, pb, g, al⟩ := r
    unfold lv Rec.v at *
    dsimp only at *
    have hb0 : Below w.heap.size w ((w.alloc (.cells #[.slice A n c, .slice B m k, .int .i64 room, .bool dead, .int .i64 arm, .int .i64 seq, .slice H hn hc, .bool stop] 26)).alloc (.cells #[.int .i64 sq, .int .i64 op, .string ⟨pa.toArray⟩, .string ⟨pb.toArray⟩, .slice RA rn rc, .bool al] 28)) := (bl_alloc w _).alloc (by simp) _
    have hkl : Blk ((w.alloc (.cells #[.slice A n c, .slice B m k, .int .i64 room, .bool dead, .int .i64 arm, .int .i64 seq, .slice H hn hc, .bool stop] 26)).alloc (.cells #[.int .i64 sq, .int .i64 op, .string ⟨pa.toArray⟩, .string ⟨pb.toArray⟩, .slice RA rn rc, .bool al] 28)) w.heap.size 26 #[.slice A n c, .slice B m k, .int .i64 room, .bool dead, .int .i64 arm, .int .i64 seq, .slice H hn hc, .bool stop] := (Blk.new w 26 _).below (bl_alloc _ _) (by simp)
    have hkr : Blk ((w.alloc (.cells #[.slice A n c, .slice B m k, .int .i64 room, .bool dead, .int .i64 arm, .int .i64 seq, .slice H hn hc, .bool stop] 26)).alloc (.cells #[.int .i64 sq, .int .i64 op, .string ⟨pa.toArray⟩, .string ⟨pb.toArray⟩, .slice RA rn rc, .bool al] 28)) (w.heap.size + 1) 28 #[.int .i64 sq, .int .i64 op, .string ⟨pa.toArray⟩, .string ⟨pb.toArray⟩, .slice RA rn rc, .bool al] := by
      have h := Blk.new (w.alloc (.cells #[.slice A n c, .slice B m k, .int .i64 room, .bool dead, .int .i64 arm, .int .i64 seq, .slice H hn hc, .bool stop] 26)) 28 #[.int .i64 sq, .int .i64 op, .string ⟨pa.toArray⟩, .string ⟨pb.toArray⟩, .slice RA rn rc, .bool al]
      rw [World.size_alloc] at h
      exact h
    have HB0 := hide hb0
    have HKL0 := hide hkl
    have HKR0 := hide hkr
    clear hb0 hkl hkr
    by_cases kbig : (1000 : Int) < (pa.length : Int) ∨ (1000 : Int) < (pb.length : Int) ∨ (100 : Int) < (rn : Int)
    · have hcase : (1000 : Int) < (pa.length : Int) ∨ (¬ (1000 : Int) < (pa.length : Int) ∧ (1000 : Int) < (pb.length : Int)) ∨ (¬ (1000 : Int) < (pa.length : Int) ∧ ¬ (1000 : Int) < (pb.length : Int) ∧ (100 : Int) < (rn : Int)) := by omega
      clear kbig
      rcases hcase with k1 | ⟨k1, k2⟩ | ⟨k1, k2, k3⟩
      all_goals
        go_enter Tryz.func3, Tryz.ntmps3
        go_wp2_with fail
        refine (XSM.out _).mono ?_
        rintro e1 w1 ⟨rfl, hb1⟩
        have HB1 := hide (below_more HB0.out (Nat.le_refl _) hb1)
        have hk1 := HKL0.out.below hb1 HKL0.out.lt
        have hq1 := HKR0.out.below hb1 HKR0.out.lt
        obtain ⟨z0, z1, z2, z3, z4, z5, z6, z7⟩ := hk1.eight
        obtain ⟨q0, q1, q2, q3, q4, q5⟩ := hq1.six
        have zl := hk1.lt
        have ql := hq1.lt
        clear hb1 hk1 hq1
        go_wp2_with fail
        refine (XHD.out _ HB1.out).mono ?_
        rintro e9 w9 ⟨rfl, hb9⟩
        have HB9 := hide (below_more HB1.out (Nat.le_refl _) hb9)
        clear hb9 XHD
        go_wp2_with fail
        go_ret
        exact ⟨rfl, HB9.out⟩
    · have k1 : ¬ (1000 : Int) < (pa.length : Int) := by omega
      have k2 : ¬ (1000 : Int) < (pb.length : Int) := by omega
      have k3 : ¬ (100 : Int) < (rn : Int) := by omega
      clear kbig
      go_enter Tryz.func3, Tryz.ntmps3
      go_wp2_with fail
      refine (XSM.out _).mono ?_
      rintro e1 w1 ⟨rfl, hb1⟩
      have HB1 := hide (below_more HB0.out (Nat.le_refl _) hb1)
      have HKL1 := hide (HKL0.out.below hb1 HKL0.out.lt)
      have HKR1 := hide (HKR0.out.below hb1 HKR0.out.lt)
      have XCALL := hide (XAO.out w1 HB1.out)
      obtain ⟨z0, z1, z2, z3, z4, z5, z6, z7⟩ := HKL1.out.eight
      obtain ⟨q0, q1, q2, q3, q4, q5⟩ := HKR1.out.six
      have zl := HKL1.out.lt
      have ql := HKR1.out.lt
      clear hb1 HB0 HKL0 HKR0 XSM XAO
      go_wp2_with fail
      refine XCALL.out.mono ?_
      rintro ea wa ⟨AA, nA, cA, BA, mA, kA, HA, hnA, hcA, OA, coA, lA, rfl, g1, g2, g2c, g3, g4⟩
      have hal := bl_alloc wa (.cells #[.slice AA nA cA, .slice BA mA kA, .int .i64 LO.room, .bool LO.dead, .int .i64 LO.arm, .int .i64 LO.seq, .slice HA hnA hcA, .bool LO.stop] 26)
      have hstep := below_more g4 (Nat.le_refl _) hal
      have HBA := hide (below_more HB1.out (Nat.le_refl _) hstep)
      have HKLA := hide (HKL1.out.below hstep HKL1.out.lt)
      have HKRA := hide (HKR1.out.below hstep HKR1.out.lt)
      have KXA := hide (Blk.new wa 26 #[.slice AA nA cA, .slice BA mA kA, .int .i64 LO.room, .bool LO.dead, .int .i64 LO.arm, .int .i64 LO.seq, .slice HA hnA hcA, .bool LO.stop])
      have LXA := hide ((g1.w).below hal)
      have RXA := hide (g2.below hal)
      have MXA := hide g3
      obtain ⟨qa, hqa⟩ : ∃ q, lA.length = q := ⟨_, rfl⟩
      rw [hqa] at RXA ⊢
      have QXA := hide hqa
      clear hqa
      have XN := hide (XRO.out _ HBA.out)
      clear XCALL z0 z1 z2 z3 z4 z5 z6 z7 q0 q1 q2 q3 q4 q5 zl ql HB1 HKL1 HKR1 g1 g4 hal hstep g2 g3 g2c
      have XCALL := hide XN.out
      clear XN XRO
      obtain ⟨z0, z1, z2, z3, z4, z5, z6, z7⟩ := HKLA.out.eight
      obtain ⟨q0, q1, q2, q3, q4, q5⟩ := HKRA.out.six
      have zl := HKLA.out.lt
      have ql := HKRA.out.lt
      go_wp2_with fail
      refine XCALL.out.mono ?_
      rintro eb wb ⟨AB, nB, cB, BB, mB, kB, HB, hnB, hcB, OB, coB, lB, rfl, g1, g2, g3, g4⟩
      have hal := bl_alloc wb (.cells #[.slice AB nB cB, .slice BB mB kB, .int .i64 LO.room, .bool LO.dead, .int .i64 LO.arm, .int .i64 LO.seq, .slice HB hnB hcB, .bool LO.stop] 26)
      have hstep := below_more g4 (Nat.le_refl _) hal
      have HBB := hide (below_more HBA.out (Nat.le_refl _) hstep)
      have HKLB := hide (HKLA.out.below hstep HKLA.out.lt)
      have HKRB := hide (HKRA.out.below hstep HKRA.out.lt)
      replace KXA := hide (KXA.out.below hstep KXA.out.lt)
      replace LXA := hide (LXA.out.below hstep)
      replace RXA := hide (RXA.out.below hstep)
      have KXB := hide (Blk.new wb 26 #[.slice AB nB cB, .slice BB mB kB, .int .i64 LO.room, .bool LO.dead, .int .i64 LO.arm, .int .i64 LO.seq, .slice HB hnB hcB, .bool LO.stop])
      have LXB := hide ((g1).below hal)
      have RXB := hide (g2.below hal)
      have MXB := hide g3
      obtain ⟨qb, hqb⟩ : ∃ q, lB.length = q := ⟨_, rfl⟩
      rw [hqb] at RXB ⊢
      have QXB := hide hqb
      clear hqb
      have XN := hide (XAW.out _ HBB.out)
      clear XCALL z0 z1 z2 z3 z4 z5 z6 z7 q0 q1 q2 q3 q4 q5 zl ql HBA HKLA HKRA g1 g4 hal hstep g2 g3
      have XCALL := hide XN.out
      clear XN XAW
      obtain ⟨z0, z1, z2, z3, z4, z5, z6, z7⟩ := HKLB.out.eight
      obtain ⟨q0, q1, q2, q3, q4, q5⟩ := HKRB.out.six
      have zl := HKLB.out.lt
      have ql := HKRB.out.lt
      go_wp2_with fail
      refine XCALL.out.mono ?_
      rintro ec wc ⟨AC, nC, cC, BC, mC, kC, HC, hnC, hcC, rfl, g1, g4⟩
      have hal := bl_alloc wc (.cells #[.slice AC nC cC, .slice BC mC kC, .int .i64 LW.room, .bool LW.dead, .int .i64 LW.arm, .int .i64 LW.seq, .slice HC hnC hcC, .bool LW.stop] 26)
      have hstep := below_more g4 (Nat.le_refl _) hal
      have HBC := hide (below_more HBB.out (Nat.le_refl _) hstep)
      have HKLC := hide (HKLB.out.below hstep HKLB.out.lt)
      have HKRC := hide (HKRB.out.below hstep HKRB.out.lt)
      replace KXA := hide (KXA.out.below hstep KXA.out.lt)
      replace LXA := hide (LXA.out.below hstep)
      replace RXA := hide (RXA.out.below hstep)
      replace KXB := hide (KXB.out.below hstep KXB.out.lt)
      replace LXB := hide (LXB.out.below hstep)
      replace RXB := hide (RXB.out.below hstep)
      have KXC := hide (Blk.new wc 26 #[.slice AC nC cC, .slice BC mC kC, .int .i64 LW.room, .bool LW.dead, .int .i64 LW.arm, .int .i64 LW.seq, .slice HC hnC hcC, .bool LW.stop])
      have LXC := hide ((g1.w).below hal)
      have XN := hide (XRW.out _ HBC.out)
      clear XCALL z0 z1 z2 z3 z4 z5 z6 z7 q0 q1 q2 q3 q4 q5 zl ql HBB HKLB HKRB g1 g4 hal hstep
      have XCALL := hide XN.out
      clear XN XRW
      obtain ⟨z0, z1, z2, z3, z4, z5, z6, z7⟩ := HKLC.out.eight
      obtain ⟨q0, q1, q2, q3, q4, q5⟩ := HKRC.out.six
      have zl := HKLC.out.lt
      have ql := HKRC.out.lt
      go_wp2_with fail
      refine XCALL.out.mono ?_
      rintro ed wd ⟨AD, nD, cD, BD, mD, kD, HD, hnD, hcD, rfl, g1, g4⟩
      have hal := bl_alloc wd (.cells #[.slice AD nD cD, .slice BD mD kD, .int .i64 LW.room, .bool LW.dead, .int .i64 LW.arm, .int .i64 LW.seq, .slice HD hnD hcD, .bool LW.stop] 26)
      have hstep := below_more g4 (Nat.le_refl _) hal
      have HBD := hide (below_more HBC.out (Nat.le_refl _) hstep)
      have HKLD := hide (HKLC.out.below hstep HKLC.out.lt)
      have HKRD := hide (HKRC.out.below hstep HKRC.out.lt)
      replace KXA := hide (KXA.out.below hstep KXA.out.lt)
      replace LXA := hide (LXA.out.below hstep)
      replace RXA := hide (RXA.out.below hstep)
      replace KXB := hide (KXB.out.below hstep KXB.out.lt)
      replace LXB := hide (LXB.out.below hstep)
      replace RXB := hide (RXB.out.below hstep)
      replace KXC := hide (KXC.out.below hstep KXC.out.lt)
      replace LXC := hide (LXC.out.below hstep)
      have KXD := hide (Blk.new wd 26 #[.slice AD nD cD, .slice BD mD kD, .int .i64 LW.room, .bool LW.dead, .int .i64 LW.arm, .int .i64 LW.seq, .slice HD hnD hcD, .bool LW.stop])
      have LXD := hide ((g1).below hal)
      have XN := hide (XAR.out _ HBD.out)
      clear XCALL z0 z1 z2 z3 z4 z5 z6 z7 q0 q1 q2 q3 q4 q5 zl ql HBC HKLC HKRC g1 g4 hal hstep
      have XCALL := hide XN.out
      clear XN XAR
      obtain ⟨z0, z1, z2, z3, z4, z5, z6, z7⟩ := HKLD.out.eight
      obtain ⟨q0, q1, q2, q3, q4, q5⟩ := HKRD.out.six
      have zl := HKLD.out.lt
      have ql := HKRD.out.lt
      go_wp2_with fail
      refine XCALL.out.mono ?_
      rintro ex wx ⟨AX, nX, cX, BX, mX, kX, HX, hnX, hcX, OX, coX, lX, rfl, g1, g2, g2c, g3, g4⟩
      have hal := bl_alloc wx (.cells #[.slice AX nX cX, .slice BX mX kX, .int .i64 LR.room, .bool LR.dead, .int .i64 LR.arm, .int .i64 LR.seq, .slice HX hnX hcX, .bool LR.stop] 26)
      have hstep := below_more g4 (Nat.le_refl _) hal
      have HBX := hide (below_more HBD.out (Nat.le_refl _) hstep)
      have HKLX := hide (HKLD.out.below hstep HKLD.out.lt)
      have HKRX := hide (HKRD.out.below hstep HKRD.out.lt)
      replace KXA := hide (KXA.out.below hstep KXA.out.lt)
      replace LXA := hide (LXA.out.below hstep)
      replace RXA := hide (RXA.out.below hstep)
      replace KXB := hide (KXB.out.below hstep KXB.out.lt)
      replace LXB := hide (LXB.out.below hstep)
      replace RXB := hide (RXB.out.below hstep)
      replace KXC := hide (KXC.out.below hstep KXC.out.lt)
      replace LXC := hide (LXC.out.below hstep)
      replace KXD := hide (KXD.out.below hstep KXD.out.lt)
      replace LXD := hide (LXD.out.below hstep)
      have KXX := hide (Blk.new wx 26 #[.slice AX nX cX, .slice BX mX kX, .int .i64 LR.room, .bool LR.dead, .int .i64 LR.arm, .int .i64 LR.seq, .slice HX hnX hcX, .bool LR.stop])
      have LXX := hide ((g1.w).below hal)
      have RXX := hide (g2.below hal)
      have MXX := hide g3
      obtain ⟨qx, hqx⟩ : ∃ q, lX.length = q := ⟨_, rfl⟩
      rw [hqx] at RXX ⊢
      have QXX := hide hqx
      clear hqx
      have XN := hide (XRR.out _ HBX.out)
      clear XCALL z0 z1 z2 z3 z4 z5 z6 z7 q0 q1 q2 q3 q4 q5 zl ql HBD HKLD HKRD g1 g4 hal hstep g2 g3 g2c
      have XCALL := hide XN.out
      clear XN XRR
      obtain ⟨z0, z1, z2, z3, z4, z5, z6, z7⟩ := HKLX.out.eight
      obtain ⟨q0, q1, q2, q3, q4, q5⟩ := HKRX.out.six
      have zl := HKLX.out.lt
      have ql := HKRX.out.lt
      go_wp2_with fail
      refine XCALL.out.mono ?_
      rintro ey wy ⟨AY, nY, cY, BY, mY, kY, HY, hnY, hcY, OY, coY, lY, rfl, g1, g2, g3, g4⟩
      have hal := bl_alloc wy (.cells #[.slice AY nY cY, .slice BY mY kY, .int .i64 LR.room, .bool LR.dead, .int .i64 LR.arm, .int .i64 LR.seq, .slice HY hnY hcY, .bool LR.stop] 26)
      have hstep := below_more g4 (Nat.le_refl _) hal
      have HBY := hide (below_more HBX.out (Nat.le_refl _) hstep)
      have HKLY := hide (HKLX.out.below hstep HKLX.out.lt)
      have HKRY := hide (HKRX.out.below hstep HKRX.out.lt)
      replace KXA := hide (KXA.out.below hstep KXA.out.lt)
      replace LXA := hide (LXA.out.below hstep)
      replace RXA := hide (RXA.out.below hstep)
      replace KXB := hide (KXB.out.below hstep KXB.out.lt)
      replace LXB := hide (LXB.out.below hstep)
      replace RXB := hide (RXB.out.below hstep)
      replace KXC := hide (KXC.out.below hstep KXC.out.lt)
      replace LXC := hide (LXC.out.below hstep)
      replace KXD := hide (KXD.out.below hstep KXD.out.lt)
      replace LXD := hide (LXD.out.below hstep)
      replace KXX := hide (KXX.out.below hstep KXX.out.lt)
      replace LXX := hide (LXX.out.below hstep)
      replace RXX := hide (RXX.out.below hstep)
      have KXY := hide (Blk.new wy 26 #[.slice AY nY cY, .slice BY mY kY, .int .i64 LR.room, .bool LR.dead, .int .i64 LR.arm, .int .i64 LR.seq, .slice HY hnY hcY, .bool LR.stop])
      have LXY := hide ((g1).below hal)
      have RXY := hide (g2.below hal)
      have MXY := hide g3
      obtain ⟨qy, hqy⟩ : ∃ q, lY.length = q := ⟨_, rfl⟩
      rw [hqy] at RXY ⊢
      have QXY := hide hqy
      clear hqy
      clear XCALL z0 z1 z2 z3 z4 z5 z6 z7 q0 q1 q2 q3 q4 q5 zl ql HBX HKLX HKRX g1 g4 hal hstep g2 g3
      obtain ⟨VY, hVY⟩ : ∃ W, wy.alloc (.cells #[.slice AY nY cY, .slice BY mY kY, .int .i64 LR.room, .bool LR.dead, .int .i64 LR.arm, .int .i64 LR.seq, .slice HY hnY hcY, .bool LR.stop] 26) = W := ⟨_, rfl⟩
      rw [hVY] at HBY HKLY KXA KXB KXC KXD KXX KXY LXA LXB LXC LXD LXX LXY RXA RXB RXX RXY
      clear HKRY
      have h1 := congrArg List.length MXA.out
      have h2 := congrArg List.length MXB.out
      rw [List.length_map, QXA.out] at h1
      rw [List.length_map, QXB.out] at h2
      try dsimp only at h1 h2
      have hqAB : qb = qa := by rw [h1, h2]
      have hlA : qa ≤ 1000000 := by rw [h1]; exact ho20
      clear h1 h2
      have HMA : Hid (lA.map RV.r = lB.map RV.r) := hide (by rw [MXA.out, MXB.out])
      subst hqAB
      clear MXA MXB QXA QXB
      have h1 := congrArg List.length MXX.out
      have h2 := congrArg List.length MXY.out
      rw [List.length_map, QXX.out] at h1
      rw [List.length_map, QXY.out] at h2
      try dsimp only at h1 h2
      have hqXY : qy = qx := by rw [h1, h2]
      have hlX : qx ≤ 1000000 := by rw [h1]; exact hq20
      clear h1 h2
      have HMX : Hid (lX.map RV.r = lY.map RV.r) := hide (by rw [MXX.out, MXY.out])
      subst hqXY
      clear MXX MXY QXX QXY
      clear ho20 hq20
      have XN := hide (rlsame_any LO AA nA cA BA mA kA HA hnA hcA AB nB cB BB mB kB HB hnB hcB _ LXA.out LXB.out)
      unfold lv at XN
      obtain ⟨x0, x1, x2, x3, x4, x5, x6, x7⟩ := KXA.out.eight
      obtain ⟨y0, y1, y2, y3, y4, y5, y6, y7⟩ := KXB.out.eight
      have xl := KXA.out.lt
      have yl := KXB.out.lt
      go_wp2_with fail
      clear hVY
      refine XN.out.mono ?_
      rintro e1 v1 ⟨rfl, hb1⟩
      clear XN x0 x1 x2 x3 x4 x5 x6 x7 y0 y1 y2 y3 y4 y5 y6 y7 xl yl
      replace HBY := hide (below_more HBY.out (Nat.le_refl _) hb1)
      replace HKLY := hide (HKLY.out.below hb1 HKLY.out.lt)
      replace KXC := hide (KXC.out.below hb1 KXC.out.lt)
      replace KXD := hide (KXD.out.below hb1 KXD.out.lt)
      replace KXX := hide (KXX.out.below hb1 KXX.out.lt)
      replace KXY := hide (KXY.out.below hb1 KXY.out.lt)
      replace LXC := hide (LXC.out.below hb1)
      replace LXD := hide (LXD.out.below hb1)
      replace LXX := hide (LXX.out.below hb1)
      replace LXY := hide (LXY.out.below hb1)
      replace RXA := hide (RXA.out.below hb1)
      replace RXB := hide (RXB.out.below hb1)
      replace RXX := hide (RXX.out.below hb1)
      replace RXY := hide (RXY.out.below hb1)
      clear hb1 KXA KXB LXA LXB
      have XN := hide (rows_same OA OB qb coA coB lA lB _ RXA.out RXB.out HMA.out hlA)
      go_wp2_with fail
      refine XN.out.mono ?_
      rintro e2 v2 ⟨rfl, hb2⟩
      clear XN
      replace HBY := hide (below_more HBY.out (Nat.le_refl _) hb2)
      replace HKLY := hide (HKLY.out.below hb2 HKLY.out.lt)
      replace KXC := hide (KXC.out.below hb2 KXC.out.lt)
      replace KXD := hide (KXD.out.below hb2 KXD.out.lt)
      replace KXX := hide (KXX.out.below hb2 KXX.out.lt)
      replace KXY := hide (KXY.out.below hb2 KXY.out.lt)
      replace LXC := hide (LXC.out.below hb2)
      replace LXD := hide (LXD.out.below hb2)
      replace LXX := hide (LXX.out.below hb2)
      replace LXY := hide (LXY.out.below hb2)
      replace RXX := hide (RXX.out.below hb2)
      replace RXY := hide (RXY.out.below hb2)
      clear hb2 RXA RXB
      have XN := hide (rlsame_any LW AC nC cC BC mC kC HC hnC hcC AD nD cD BD mD kD HD hnD hcD _ LXC.out LXD.out)
      unfold lv at XN
      obtain ⟨x0, x1, x2, x3, x4, x5, x6, x7⟩ := KXC.out.eight
      obtain ⟨y0, y1, y2, y3, y4, y5, y6, y7⟩ := KXD.out.eight
      have xl := KXC.out.lt
      have yl := KXD.out.lt
      go_wp2_with fail
      refine XN.out.mono ?_
      rintro e3 v3 ⟨rfl, hb3⟩
      clear XN x0 x1 x2 x3 x4 x5 x6 x7 y0 y1 y2 y3 y4 y5 y6 y7 xl yl
      replace HBY := hide (below_more HBY.out (Nat.le_refl _) hb3)
      replace HKLY := hide (HKLY.out.below hb3 HKLY.out.lt)
      replace KXX := hide (KXX.out.below hb3 KXX.out.lt)
      replace KXY := hide (KXY.out.below hb3 KXY.out.lt)
      replace LXX := hide (LXX.out.below hb3)
      replace LXY := hide (LXY.out.below hb3)
      replace RXX := hide (RXX.out.below hb3)
      replace RXY := hide (RXY.out.below hb3)
      clear hb3 KXC KXD LXC LXD
      have XN := hide (rlsame_any LR AX nX cX BX mX kX HX hnX hcX AY nY cY BY mY kY HY hnY hcY _ LXX.out LXY.out)
      unfold lv at XN
      obtain ⟨x0, x1, x2, x3, x4, x5, x6, x7⟩ := KXX.out.eight
      obtain ⟨y0, y1, y2, y3, y4, y5, y6, y7⟩ := KXY.out.eight
      have xl := KXX.out.lt
      have yl := KXY.out.lt
      go_wp2_with fail
      refine XN.out.mono ?_
      rintro e4 v4 ⟨rfl, hb4⟩
      clear XN x0 x1 x2 x3 x4 x5 x6 x7 y0 y1 y2 y3 y4 y5 y6 y7 xl yl
      replace HBY := hide (below_more HBY.out (Nat.le_refl _) hb4)
      replace HKLY := hide (HKLY.out.below hb4 HKLY.out.lt)
      replace RXX := hide (RXX.out.below hb4)
      replace RXY := hide (RXY.out.below hb4)
      clear hb4 KXX KXY LXX LXY
      have XN := hide (rows_same OX OY qy coX coY lX lY _ RXX.out RXY.out HMX.out hlX)
      go_wp2_with fail
      refine XN.out.mono ?_
      rintro e5 v5 ⟨rfl, hb5⟩
      clear XN
      replace HBY := hide (below_more HBY.out (Nat.le_refl _) hb5)
      replace HKLY := hide (HKLY.out.below hb5 HKLY.out.lt)
      clear hb5 RXX RXY
      obtain ⟨RKL, hRKL⟩ : ∃ q, RK.length = q := ⟨_, rfl⟩
      have hrk : RKL ≤ 1000000 := by rw [← hRKL]; exact hr20
      have HRKL := hide hRKL
      clear hRKL hr20
      have YAK := hide (fun W (hW : Below v5.heap.size v5 W) => XAK.out W (below_more HBY.out (Nat.le_refl _) hW))
      have YRK := hide (fun W (hW : Below v5.heap.size v5 W) => XRK.out W (below_more HBY.out (Nat.le_refl _) hW))
      have YAC := hide (fun W (hW : Below v5.heap.size v5 W) => XAC.out W (below_more HBY.out (Nat.le_refl _) hW))
      have YRC := hide (fun W (hW : Below v5.heap.size v5 W) => XRC.out W (below_more HBY.out (Nat.le_refl _) hW))
      have YHD := hide (fun W (hW : Below v5.heap.size v5 W) => XHD.out W (below_more HBY.out (Nat.le_refl _) hW))
      have allS : Hid (∀ V, Below v5.heap.size v5 V → (V.cell? ⟨w.heap.size, 0, none⟩ = some (.slice A n c) ∧ V.cell? ⟨w.heap.size, 1, none⟩ = some (.slice B m k) ∧ V.cell? ⟨w.heap.size, 2, none⟩ = some (.int .i64 room) ∧ V.cell? ⟨w.heap.size, 3, none⟩ = some (.bool dead) ∧ V.cell? ⟨w.heap.size, 4, none⟩ = some (.int .i64 arm) ∧ V.cell? ⟨w.heap.size, 5, none⟩ = some (.int .i64 seq) ∧ V.cell? ⟨w.heap.size, 6, none⟩ = some (.slice H hn hc) ∧ V.cell? ⟨w.heap.size, 7, none⟩ = some (.bool stop))) := hide (fun V hV => (HKLY.out.below hV HKLY.out.lt).eight)
      have kW := hide (Below.refl v5.heap.size v5)
      obtain ⟨z0, z1, z2, z3, z4, z5, z6, z7⟩ := allS.out _ kW.out
      have zl := HKLY.out.lt
      clear XAK XRK XAC XRC XHD
      go_wp2_with fail
      go_region_held3 (fun V => (V.cell? ⟨w.heap.size, 0, none⟩ = some (.slice A n c) ∧ V.cell? ⟨w.heap.size, 1, none⟩ = some (.slice B m k) ∧ V.cell? ⟨w.heap.size, 2, none⟩ = some (.int .i64 room) ∧ V.cell? ⟨w.heap.size, 3, none⟩ = some (.bool dead) ∧ V.cell? ⟨w.heap.size, 4, none⟩ = some (.int .i64 arm) ∧ V.cell? ⟨w.heap.size, 5, none⟩ = some (.int .i64 seq) ∧ V.cell? ⟨w.heap.size, 6, none⟩ = some (.slice H hn hc) ∧ V.cell? ⟨w.heap.size, 7, none⟩ = some (.bool stop)))
      (first | with_reducible exact allS.out _ (Below.drew kW.out) | with_reducible exact allS.out _ kW.out)
      (first
        | (go_at_call 14; with_reducible refine (YAK.out _ (Below.drew kW.out)).mono ?_
           rintro e wx ⟨rfl, kx⟩
           have kX := hide (below_more (Below.drew kW.out) (Nat.le_refl _) kx)
           clear kW
           have kW := hide kX.out
           clear kx kX)
        | (go_at_call 14; with_reducible refine (YAK.out _ kW.out).mono ?_
           rintro e wx ⟨rfl, kx⟩
           have kX := hide (below_more kW.out (Nat.le_refl _) kx)
           clear kW
           have kW := hide kX.out
           clear kx kX)
        | (go_at_call 15; with_reducible refine (YRK.out _ (Below.drew kW.out)).mono ?_
           rintro e wx ⟨rfl, kx⟩
           have kX := hide (below_more (Below.drew kW.out) (Nat.le_refl _) kx)
           clear kW
           have kW := hide kX.out
           clear kx kX)
        | (go_at_call 15; with_reducible refine (YRK.out _ kW.out).mono ?_
           rintro e wx ⟨rfl, kx⟩
           have kX := hide (below_more kW.out (Nat.le_refl _) kx)
           clear kW
           have kW := hide kX.out
           clear kx kX)
        | (go_at_call 16; with_reducible refine (YAC.out _ (Below.drew kW.out)).mono ?_
           rintro e wx ⟨O1, co1, l1, rfl, r1, r2, kx⟩
           have hl1 : l1.length = RKL := by rw [← HRKL.out, ← r2, List.length_map]
           rw [hl1] at r1 ⊢
           have P1 := hide r1
           have N1 := hide r2
           clear r1 r2 hl1
           have kX := hide (below_more (Below.drew kW.out) (Nat.le_refl _) kx)
           clear kW
           have kW := hide kX.out
           clear kx kX)
        | (go_at_call 16; with_reducible refine (YAC.out _ kW.out).mono ?_
           rintro e wx ⟨O1, co1, l1, rfl, r1, r2, kx⟩
           have hl1 : l1.length = RKL := by rw [← HRKL.out, ← r2, List.length_map]
           rw [hl1] at r1 ⊢
           have P1 := hide r1
           have N1 := hide r2
           clear r1 r2 hl1
           have kX := hide (below_more kW.out (Nat.le_refl _) kx)
           clear kW
           have kW := hide kX.out
           clear kx kX)
        | (go_at_call 17; with_reducible refine (YRC.out _ (Below.drew kW.out)).mono ?_
           rintro e wx ⟨O2, co2, l2, rfl, r1, r2, kx⟩
           have hl2 : l2.length = RKL := by rw [← HRKL.out, ← r2, List.length_map]
           rw [hl2] at r1 ⊢
           have p1 : RowR wx O1 RKL l1 := RowR.below (w := _) (by exact P1.out) kx
           have YRW := hide (fun W (hW : Below wx.heap.size wx W) => rows_same O1 O2 RKL co1 co2 l1 l2 W (p1.below hW) (r1.below hW) (by rw [N1.out, r2]) hrk)
           have kW2 := hide (Below.refl wx.heap.size wx)
           clear r1 r2 p1 hl2 P1 N1
           have kX := hide (below_more (Below.drew kW.out) (Nat.le_refl _) kx)
           clear kW
           have kW := hide kX.out
           clear kx kX)
        | (go_at_call 17; with_reducible refine (YRC.out _ kW.out).mono ?_
           rintro e wx ⟨O2, co2, l2, rfl, r1, r2, kx⟩
           have hl2 : l2.length = RKL := by rw [← HRKL.out, ← r2, List.length_map]
           rw [hl2] at r1 ⊢
           have p1 : RowR wx O1 RKL l1 := RowR.below (w := _) (by exact P1.out) kx
           have YRW := hide (fun W (hW : Below wx.heap.size wx W) => rows_same O1 O2 RKL co1 co2 l1 l2 W (p1.below hW) (r1.below hW) (by rw [N1.out, r2]) hrk)
           have kW2 := hide (Below.refl wx.heap.size wx)
           clear r1 r2 p1 hl2 P1 N1
           have kX := hide (below_more kW.out (Nat.le_refl _) kx)
           clear kW
           have kW := hide kX.out
           clear kx kX)
        | (go_at_call 13; with_reducible refine (YRW.out _ (Below.drew kW2.out)).mono ?_
           rintro e wx ⟨rfl, kx⟩
           have kX := hide (below_more (Below.drew kW.out) (Nat.le_refl _) kx)
           clear kW
           have kW := hide kX.out
           clear kx kX)
        | (go_at_call 13; with_reducible refine (YRW.out _ kW2.out).mono ?_
           rintro e wx ⟨rfl, kx⟩
           have kX := hide (below_more kW.out (Nat.le_refl _) kx)
           clear kW
           have kW := hide kX.out
           clear kx kX)
        | (go_at_call 5; with_reducible refine (YHD.out _ (Below.drew kW.out)).mono ?_
           rintro e wx ⟨rfl, kx⟩
           have kX := hide (below_more (Below.drew kW.out) (Nat.le_refl _) kx)
           clear kW
           have kW := hide kX.out
           clear kx kX)
        | (go_at_call 5; with_reducible refine (YHD.out _ kW.out).mono ?_
           rintro e wx ⟨rfl, kx⟩
           have kX := hide (below_more kW.out (Nat.le_refl _) kx)
           clear kW
           have kW := hide kX.out
           clear kx kX))
      all_goals
        go_wp2
        go_ret
        exact ⟨rfl, below_more HBY.out (Nat.le_refl _) kW.out⟩
  · have XSM := hide (fun W => small_no A n c B m k H hn hc L.room L.arm L.seq L.dead L.stop W hsm)
    obtain ⟨s, p, room, dead, arm, seq, hash, stop⟩ := L
    obtain ⟨sq, op, pa, pb, g, al⟩ := r
    unfold lv Rec.v at *
    dsimp only at *
    have hb0 : Below w.heap.size w ((w.alloc (.cells #[.slice A n c, .slice B m k, .int .i64 room, .bool dead, .int .i64 arm, .int .i64 seq, .slice H hn hc, .bool stop] 26)).alloc (.cells #[.int .i64 sq, .int .i64 op, .string ⟨pa.toArray⟩, .string ⟨pb.toArray⟩, .slice RA rn rc, .bool al] 28)) := (bl_alloc w _).alloc (by simp) _
    have HB0 := hide hb0
    clear hb0 hls hlp hrs hrp hrh hsm
    go_enter Tryz.func3, Tryz.ntmps3
    go_wp2_with fail
    refine (XSM.out _).mono ?_
    rintro e1 w1 ⟨rfl, hb1⟩
    have HB1 := hide (below_more HB0.out (Nat.le_refl _) hb1)
    clear hb1
    go_wp2_with fail
    refine (XHD.out _ HB1.out).mono ?_
    rintro e9 w9 ⟨rfl, hb9⟩
    have HB9 := hide (below_more HB1.out (Nat.le_refl _) hb9)
    clear hb9 XHD
    go_wp2_with fail
    go_ret
    exact ⟨rfl, HB9.out⟩
theorem does_fin (L : Lg) (r : Rec) (keep : Int) (A : Option Addr) (n c : Nat) (B : Option Addr) (m k : Nat) (H : Option Addr) (hn hc : Nat) (RA : Option Addr) (rn rc : Nat) (w : World) (hrs : Rd w A n L.s) (hnc : n ≤ c) (hrp : Rd w B m L.p) (hmk : m ≤ k) (hrh : Rd w H hn L.hash) (hhc : hn ≤ hc) (ha : L.arm ≤ 9223372036854775807) (hD : Rd w RA rn r.dig) (hpa : r.path.length ≤ maxLen) (hpb : r.path2.length ≤ maxLen) (hS : Std w ∧ Tabs w ∧ ∃ a0 a1 a2, Sent a0 a1 a2 w) :
    Calls Tryz.prog 3 #[lv L A n c B m k H hn hc, Rec.v r RA rn rc, .int .i64 keep] w fun e w' => e = .returned (.bool true) ∧ Below w.heap.size w w' := by
  obtain ⟨h1, h2, t0, t1, t2, h3⟩ := hS
  exact does_law L r keep A n c B m k H hn hc RA rn rc t0 t1 t2 w hrs hnc hrp hmk hrh hhc ha hD hpa hpb h1 h2 h3
end Go.Proofs.YtbbobffedgcbhaaGreatDoor
