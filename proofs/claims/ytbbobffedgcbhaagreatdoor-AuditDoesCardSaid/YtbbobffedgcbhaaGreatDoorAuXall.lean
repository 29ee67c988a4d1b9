/- audit.Write: nothing is written, whatever the reason. audit.code, prepare: what is no log, or no record. audit.Open, Write, Recover, Records at whatever log. audit.Write and Records at whatever log and record. -/
import Derived.Test.YtbbobffedgcbhaaGreatDoorAuWs
import Derived.Test.YtbbobffedgcbhaaGreatDoorAuP
import Derived.Test.YtbbobffedgcbhaaGreatDoorAuWy
import Derived.Test.YtbbobffedgcbhaaGreatDoorAuR
namespace Go.Proofs.YtbbobffedgcbhaaGreatDoor
open Go.RowKit
set_option linter.unusedVariables false
def WNoG (s p hash : LB) (hn : Nat) (room : Int) (dead : Bool) (arm seq : Int) (stop : Bool) (E : Int) (w : World) (e : Ending) (w' : World) : Prop := ∃ A n c B m k H hc, e = .returned (.tuple #[.agg #[.slice A n c, .slice B m k, .int .i64 room, .bool dead, .int .i64 arm, .int .i64 seq, .slice H hn hc, .bool stop], .int .i64 E]) ∧ Rd w' A n s ∧ n ≤ c ∧ Rd w' B m p ∧ m ≤ k ∧ Rd w' H hn hash ∧ hn ≤ hc ∧ Below w.heap.size w w'
set_option maxRecDepth 100000 in
set_option maxHeartbeats 32000000 in
theorem awrite_no (s p hash : LB) (room arm : Int) (dead stop : Bool) (Q E : Int) (str : ByteArray) (x : Addr) (r : Rec) (A : Option Addr) (n c : Nat) (B : Option Addr) (m k : Nat) (H : Option Addr) (hn hc : Nat) (RA : Option Addr) (rn rc : Nat) (w : World) (hI : LogIn w ⟨s, p, room, dead, arm, Q, hash, stop⟩ A n c B m k H hn hc)
    (XP : ∀ W, Below w.heap.size w W → Calls Tryz.prog 26 #[lv ⟨s, p, room, dead, arm, Q, hash, stop⟩ A n c B m k H hn hc, Rec.v ⟨Q, r.op, r.path, r.path2, r.dig, r.allow⟩ RA rn rc] W fun e w' => e = .returned (.tuple #[.slice none 0 0, .slice none 0 0, .iface 67 (.agg #[.string str, .iface 172 (.pointer (some x))])]) ∧ Below W.heap.size W w')
    (XC : ∀ W, Below w.heap.size w W → Calls Tryz.prog 27 #[.iface 67 (.agg #[.string str, .iface 172 (.pointer (some x))])] W fun e w' => e = .returned (.int .i64 E) ∧ Below W.heap.size W w') :
    Calls Tryz.prog 8 #[.agg #[Value.slice A n c, .slice B m k, .int .i64 room, .bool dead, .int .i64 arm, .int .i64 Q, .slice H hn hc, .bool stop], Rec.v r RA rn rc] w (WNoG s p hash hn room dead arm Q stop E w) := by
  obtain ⟨sq, op, pa, pb, g, al⟩ := r
  unfold Rec.v
  dsimp only
  have XG := hide (fun W (hW : Below w.heap.size w W) => clog_any ⟨s, p, room, dead, arm, Q, hash, stop⟩ A n c B m k H hn hc W (hI.below hW))
  have XP := hide XP
  unfold lv Rec.v at XP
  unfold lv at XG
  dsimp only at XP XG
  have XCC := hide XC
  clear XC
  have hb3 : Below w.heap.size w (((w.alloc (.cells #[Value.slice A n c, .slice B m k, .int .i64 room, .bool dead, .int .i64 arm, .int .i64 Q, .slice H hn hc, .bool stop] 26)).alloc (.cells #[Value.int .i64 sq, .int .i64 op, .string ⟨pa.toArray⟩, .string ⟨pb.toArray⟩, .slice RA rn rc, .bool al] 28)).alloc (.cells #[Value.slice none 0 0, .slice none 0 0, .int .i64 0, .bool false, .int .i64 0, .int .i64 0, .slice none 0 0, .bool false] 26)) := ((bl_alloc w _).alloc (by simp) _).alloc (by simp; omega) _
  obtain ⟨W0, hW0⟩ : ∃ W, (((w.alloc (.cells #[Value.slice A n c, .slice B m k, .int .i64 room, .bool dead, .int .i64 arm, .int .i64 Q, .slice H hn hc, .bool stop] 26)).alloc (.cells #[Value.int .i64 sq, .int .i64 op, .string ⟨pa.toArray⟩, .string ⟨pb.toArray⟩, .slice RA rn rc, .bool al] 28)).alloc (.cells #[Value.slice none 0 0, .slice none 0 0, .int .i64 0, .bool false, .int .i64 0, .int .i64 0, .slice none 0 0, .bool false] 26)) = W := ⟨_, rfl⟩
  have HB0 : Hid (Below w.heap.size w W0) := hide (by rw [← hW0]; exact hb3)
  have HL0 : Hid (Blk W0 w.heap.size 26 #[Value.slice A n c, .slice B m k, .int .i64 room, .bool dead, .int .i64 arm, .int .i64 Q, .slice H hn hc, .bool stop]) := hide (by rw [← hW0]; exact ((Blk.new w 26 #[Value.slice A n c, .slice B m k, .int .i64 room, .bool dead, .int .i64 arm, .int .i64 Q, .slice H hn hc, .bool stop]).alloc _).alloc _)
  have HR0 : Hid (Blk W0 (w.heap.size + 1) 28 #[Value.int .i64 sq, .int .i64 op, .string ⟨pa.toArray⟩, .string ⟨pb.toArray⟩, .slice RA rn rc, .bool al]) := hide (by
    rw [← hW0]
    have h := (Blk.new (w.alloc (.cells #[Value.slice A n c, .slice B m k, .int .i64 room, .bool dead, .int .i64 arm, .int .i64 Q, .slice H hn hc, .bool stop] 26)) 28 #[Value.int .i64 sq, .int .i64 op, .string ⟨pa.toArray⟩, .string ⟨pb.toArray⟩, .slice RA rn rc, .bool al]).alloc (.cells #[Value.slice none 0 0, .slice none 0 0, .int .i64 0, .bool false, .int .i64 0, .int .i64 0, .slice none 0 0, .bool false] 26)
    simpa only [World.size_alloc] using h)
  have HZ0 : Hid (Blk W0 (w.heap.size + 2) 26 #[Value.slice none 0 0, .slice none 0 0, .int .i64 0, .bool false, .int .i64 0, .int .i64 0, .slice none 0 0, .bool false]) := hide (by
    rw [← hW0]
    have h := Blk.new ((w.alloc (.cells #[Value.slice A n c, .slice B m k, .int .i64 room, .bool dead, .int .i64 arm, .int .i64 Q, .slice H hn hc, .bool stop] 26)).alloc (.cells #[Value.int .i64 sq, .int .i64 op, .string ⟨pa.toArray⟩, .string ⟨pb.toArray⟩, .slice RA rn rc, .bool al] 28)) 26 #[Value.slice none 0 0, .slice none 0 0, .int .i64 0, .bool false, .int .i64 0, .int .i64 0, .slice none 0 0, .bool false]
    simpa only [World.size_alloc] using h)
  clear hb3
  obtain ⟨⟨x0, x1, x2, x3, x4, x5, x6, x7⟩, xz0, xz1, xz2, xz3, xz4, xz5, xz6, xz7⟩ := blk8 HL0.out
  have xl := HL0.out.lt
  go_enter Tryz.func8, Tryz.ntmps8
  go_wp2_with fail
  refine (XG.out W0 HB0.out).mono ?_
  rintro e1 w1 ⟨A1, c1, B1, k1, H1, h1, rfl, g1, g2, g3, g4⟩
  clear hW0 x0 x1 x2 x3 x4 x5 x6 x7 xz0 xz1 xz2 xz3 xz4 xz5 xz6 xz7 xl
  have hw0 : w.heap.size + 2 < W0.heap.size := HZ0.out.lt
  have hw01 := g4.size
  have HB1 := hide (below_more HB0.out (Nat.le_refl _) g4)
  have HL1 := hide (HL0.out.below g4 HL0.out.lt)
  have HR1 := hide (HR0.out.below g4 HR0.out.lt)
  have HZ1 := hide (HZ0.out.below g4 HZ0.out.lt)
  obtain ⟨W2, hW2⟩ : ∃ W, (w1.setCell ⟨w.heap.size + 1, 0, none⟩ (.int .i64 Q)).alloc (.cells #[Value.slice A1 n c1, .slice B1 m k1, .int .i64 room, .bool dead, .int .i64 arm, .int .i64 Q, .slice H1 hn h1, .bool stop] 26) = W := ⟨_, rfl⟩
  have hbs : Below w.heap.size w (w1.setCell ⟨w.heap.size + 1, 0, none⟩ (.int .i64 Q)) := HB1.out.setCell (Nat.le_succ _) _
  have hba := bl_alloc (w1.setCell ⟨w.heap.size + 1, 0, none⟩ (.int .i64 Q)) (.cells #[Value.slice A1 n c1, .slice B1 m k1, .int .i64 room, .bool dead, .int .i64 arm, .int .i64 Q, .slice H1 hn h1, .bool stop] 26)
  have HB2 : Hid (Below w.heap.size w W2) := hide (by rw [← hW2]; exact below_more hbs (Nat.le_refl _) hba)
  have hl2 := (HL1.out.far (p := ⟨w.heap.size + 1, 0, none⟩) (by show w.heap.size ≠ w.heap.size + 1; omega) (.int .i64 Q))
  have hr2 : Blk (w1.setCell ⟨w.heap.size + 1, 0, none⟩ (.int .i64 Q)) (w.heap.size + 1) 28 #[Value.int .i64 Q, .int .i64 op, .string ⟨pa.toArray⟩, .string ⟨pb.toArray⟩, .slice RA rn rc, .bool al] := HR1.out.set_ 0 _
  have hz2 := (HZ1.out.far (p := ⟨w.heap.size + 1, 0, none⟩) (by show w.heap.size + 2 ≠ w.heap.size + 1; omega) (.int .i64 Q))
  have HL2 : Hid (Blk W2 w.heap.size 26 #[Value.slice A n c, .slice B m k, .int .i64 room, .bool dead, .int .i64 arm, .int .i64 Q, .slice H hn hc, .bool stop]) := hide (by rw [← hW2]; exact hl2.below hba hl2.lt)
  have HR2 : Hid (Blk W2 (w.heap.size + 1) 28 #[Value.int .i64 Q, .int .i64 op, .string ⟨pa.toArray⟩, .string ⟨pb.toArray⟩, .slice RA rn rc, .bool al]) := hide (by rw [← hW2]; exact hr2.below hba hr2.lt)
  have HZ2 : Hid (Blk W2 (w.heap.size + 2) 26 #[Value.slice none 0 0, .slice none 0 0, .int .i64 0, .bool false, .int .i64 0, .int .i64 0, .slice none 0 0, .bool false]) := hide (by rw [← hW2]; exact hz2.below hba hz2.lt)
  have HO2 : Hid (Blk W2 w1.heap.size 26 #[Value.slice A1 n c1, .slice B1 m k1, .int .i64 room, .bool dead, .int .i64 arm, .int .i64 Q, .slice H1 hn h1, .bool stop]) := hide (by
    rw [← hW2]
    have h := Blk.new (w1.setCell ⟨w.heap.size + 1, 0, none⟩ (.int .i64 Q)) 26 #[Value.slice A1 n c1, .slice B1 m k1, .int .i64 room, .bool dead, .int .i64 arm, .int .i64 Q, .slice H1 hn h1, .bool stop]
    simpa only [World.size_setCell] using h)
  have HS2 : Hid (OwB W0.heap.size W2 A1 n c1 s) := hide (by rw [← hW2]; exact OwB.below (own_far g1 (by show w.heap.size + 1 < W0.heap.size; omega) _) hba)
  have HG2 : Hid (OwB W0.heap.size W2 H1 hn h1 hash) := hide (by rw [← hW2]; exact OwB.below (own_far g3 (by show w.heap.size + 1 < W0.heap.size; omega) _) hba)
  have HP2 : Hid (OwB W0.heap.size W2 B1 m k1 p) := hide (by rw [← hW2]; exact OwB.below (own_far g2 (by show w.heap.size + 1 < W0.heap.size; omega) _) hba)
  obtain ⟨⟨x0, x1, x2, x3, x4, x5, x6, x7⟩, xz0, xz1, xz2, xz3, xz4, xz5, xz6, xz7⟩ := blk8 HL1.out
  have xl := HL1.out.lt
  obtain ⟨⟨y0, y1, y2, y3, y4, y5⟩, yz0, yz1, yz2, yz3, yz4, yz5⟩ := blk6 HR1.out
  have yl := HR1.out.lt
  obtain ⟨⟨v0, v1, v2, v3, v4, v5, v6, v7⟩, vz0, vz1, vz2, vz3, vz4, vz5, vz6, vz7⟩ := blk8 HL2.out
  have vl := HL2.out.lt
  obtain ⟨⟨t0, t1, t2, t3, t4, t5⟩, tz0, tz1, tz2, tz3, tz4, tz5⟩ := blk6 HR2.out
  have tl := HR2.out.lt
  clear hbs hba hl2 hr2 hz2
  go_wp2_with fail
  refine (XP.out W2 HB2.out).mono ?_
  rintro e2 w3 ⟨rfl, u4⟩
  clear hW2 x0 x1 x2 x3 x4 x5 x6 x7 xz0 xz1 xz2 xz3 xz4 xz5 xz6 xz7 xl y0 y1 y2 y3 y4 y5 yz0 yz1 yz2 yz3 yz4 yz5 yl v0 v1 v2 v3 v4 v5 v6 v7 vz0 vz1 vz2 vz3 vz4 vz5 vz6 vz7 vl t0 t1 t2 t3 t4 t5 tz0 tz1 tz2 tz3 tz4 tz5 tl
  have HW2S := hide HO2.out.lt
  have HB3 := hide (below_more HB2.out (Nat.le_refl _) u4)
  have HZ3 := hide (HZ2.out.below u4 HZ2.out.lt)
  have HO3 := hide (HO2.out.below u4 HO2.out.lt)
  have HS3 := hide (HS2.out.below u4)
  have HP3 := hide (HP2.out.below u4)
  have HG3 := hide (HG2.out.below u4)
  have XC := hide XCC.out
  clear u4 HL2 HR2 HZ2 HO2 HL1 HR1 HZ1 HL0 HR0 HZ0
  obtain ⟨⟨x0, x1, x2, x3, x4, x5, x6, x7⟩, xz0, xz1, xz2, xz3, xz4, xz5, xz6, xz7⟩ := blk8 HO3.out
  have xl := HO3.out.lt
  obtain ⟨⟨t0, t1, t2, t3, t4, t5, t6, t7⟩, tz0, tz1, tz2, tz3, tz4, tz5, tz6, tz7⟩ := blk8 HZ3.out
  have tl := HZ3.out.lt
  have hr0 : w.heap.size + 1 + 1 < W0.heap.size := hw0
  go_wp2_with fail
  go_region_law (first
    | (go_simp; go_at_call 27
       refine (XC.out w3.drew (Below.drew HB3.out)).mono ?_
       rintro e4 w4 ⟨rfl, g4⟩
       have hO4 : Blk w4 w1.heap.size 26 #[Value.slice A1 n c1, .slice B1 m k1, .int .i64 room, .bool dead, .int .i64 arm, .int .i64 Q, .slice H1 hn h1, .bool stop] := Blk.below (h := (show Blk w3.drew w1.heap.size 26 #[Value.slice A1 n c1, .slice B1 m k1, .int .i64 room, .bool dead, .int .i64 arm, .int .i64 Q, .slice H1 hn h1, .bool stop] from HO3.out)) (hb := g4) (by exact HO3.out.lt)
       have hZ4 : Blk w4 (w.heap.size + 1 + 1) 26 #[Value.slice none 0 0, .slice none 0 0, .int .i64 0, .bool false, .int .i64 0, .int .i64 0, .slice none 0 0, .bool false] := Blk.below (h := (show Blk w3.drew (w.heap.size + 1 + 1) 26 #[Value.slice none 0 0, .slice none 0 0, .int .i64 0, .bool false, .int .i64 0, .int .i64 0, .slice none 0 0, .bool false] from HZ3.out)) (hb := g4) (by exact HZ3.out.lt)
       have HZ4 := hide hZ4
       have HB4 : Hid (Below w.heap.size w w4) := hide ((Below.drew HB3.out).trans (g4.mono (by exact HB3.out.size)))
       have HS4 : Hid (OwB W0.heap.size w4 A1 n c1 s) := hide (OwB.below (w := w3.drew) HS3.out g4)
       have HP4 : Hid (OwB W0.heap.size w4 B1 m k1 p) := hide (OwB.below (w := w3.drew) HP3.out g4)
       have HG4 : Hid (OwB W0.heap.size w4 H1 hn h1 hash) := hide (OwB.below (w := w3.drew) HG3.out g4)
       clear g4
       obtain ⟨⟨i0, i1, i2, i3, i4, i5, i6, i7⟩, j0, j1, j2, j3, j4, j5, j6, j7⟩ := blk8 hO4
       obtain ⟨⟨m0, m1, m2, m3, m4, m5, m6, m7⟩, n0, n1, n2, n3, n4, n5, n6, n7⟩ := blk8 hZ4
       have hol := hO4.lt
       have hzl := hZ4.lt
       clear hO4 hZ4))
  all_goals
    clear x0 x1 x2 x3 x4 x5 x6 x7 xz0 xz1 xz2 xz3 xz4 xz5 xz6 xz7 xl t0 t1 t2 t3 t4 t5 t6 t7 tz0 tz1 tz2 tz3 tz4 tz5 tz6 tz7 tl
    obtain ⟨WE, hWE⟩ : ∃ W, ((((((((w4.setCell ⟨w.heap.size + 1 + 1, 0, none⟩ (.slice A1 n c1)).setCell ⟨w.heap.size + 1 + 1, 1, none⟩ (.slice B1 m k1)).setCell ⟨w.heap.size + 1 + 1, 2, none⟩ (.int .i64 room)).setCell ⟨w.heap.size + 1 + 1, 3, none⟩ (.bool dead)).setCell ⟨w.heap.size + 1 + 1, 4, none⟩ (.int .i64 arm)).setCell ⟨w.heap.size + 1 + 1, 5, none⟩ (.int .i64 Q)).setCell ⟨w.heap.size + 1 + 1, 6, none⟩ (.slice H1 hn h1)).setCell ⟨w.heap.size + 1 + 1, 7, none⟩ (.bool stop)) = W := ⟨_, rfl⟩
    have hzs := set_log HZ4.out (.slice A1 n c1) (.slice B1 m k1) (.int .i64 room) (.bool dead) (.int .i64 arm) (.int .i64 Q) (.slice H1 hn h1) (.bool stop)
    have HZE : Hid (Blk WE (w.heap.size + 1 + 1) 26 #[.slice A1 n c1, .slice B1 m k1, .int .i64 room, .bool dead, .int .i64 arm, .int .i64 Q, .slice H1 hn h1, .bool stop]) := hide (by rw [← hWE]; exact hzs)
    have HF : Hid (∀ W, (W = WE ∨ W = WE.drew) → WNoG s p hash hn room dead arm Q stop E w (.returned (.tuple #[.agg #[.slice A1 n c1, .slice B1 m k1, .int .i64 room, .bool dead, .int .i64 arm, .int .i64 Q, .slice H1 hn h1, .bool stop], .int .i64 E])) W) := hide (by
      have o1 : OwB W0.heap.size WE A1 n c1 s := by rw [← hWE]; exact own8 HS4.out _ hr0 (.slice A1 n c1) (.slice B1 m k1) (.int .i64 room) (.bool dead) (.int .i64 arm) (.int .i64 Q) (.slice H1 hn h1) (.bool stop)
      have o2 : OwB W0.heap.size WE B1 m k1 p := by rw [← hWE]; exact own8 HP4.out _ hr0 (.slice A1 n c1) (.slice B1 m k1) (.int .i64 room) (.bool dead) (.int .i64 arm) (.int .i64 Q) (.slice H1 hn h1) (.bool stop)
      have o3 : OwB W0.heap.size WE H1 hn h1 hash := by rw [← hWE]; exact own8 HG4.out _ hr0 (.slice A1 n c1) (.slice B1 m k1) (.int .i64 room) (.bool dead) (.int .i64 arm) (.int .i64 Q) (.slice H1 hn h1) (.bool stop)
      have o4 : Below w.heap.size w WE := by rw [← hWE]; exact below8 HB4.out _ (by omega) (.slice A1 n c1) (.slice B1 m k1) (.int .i64 room) (.bool dead) (.int .i64 arm) (.int .i64 Q) (.slice H1 hn h1) (.bool stop)
      rintro W (rfl | rfl)
      · exact ⟨A1, n, c1, B1, m, k1, H1, h1, rfl, o1.rd, o1.le, o2.rd, o2.le, o3.rd, o3.le, o4⟩
      · exact ⟨A1, n, c1, B1, m, k1, H1, h1, rfl, Reads.drew o1.rd, o1.le, Reads.drew o2.rd, o2.le, Reads.drew o3.rd, o3.le, Below.drew o4⟩)
    clear hzs HS4 HP4 HG4 HB4
    rw [hWE]
    clear hWE i0 i1 i2 i3 i4 i5 i6 i7 j0 j1 j2 j3 j4 j5 j6 j7 m0 m1 m2 m3 m4 m5 m6 m7 n0 n1 n2 n3 n4 n5 n6 n7
    obtain ⟨⟨d0, d1, d2, d3, d4, d5, d6, d7⟩, b0, b1, b2, b3, b4, b5, b6, b7⟩ := blk8 HZE.out
    have dl := HZE.out.lt
    go_wp2
    first
      | refine bodyPost_ret (v := .tuple #[.agg #[.slice A1 n c1, .slice B1 m k1, .int .i64 room, .bool dead, .int .i64 arm, .int .i64 Q, .slice H1 hn h1, .bool stop], .int .i64 E]) (by simp only [results, Tryz.results8]; go_simp) rfl (HF.out _ (.inl rfl))
      | refine bodyPost_ret (v := .tuple #[.agg #[.slice A1 n c1, .slice B1 m k1, .int .i64 room, .bool dead, .int .i64 arm, .int .i64 Q, .slice H1 hn h1, .bool stop], .int .i64 E]) (by simp only [results, Tryz.results8]; go_simp) rfl (HF.out _ (.inr rfl))
end Go.Proofs.YtbbobffedgcbhaaGreatDoor
namespace Go.Proofs.YtbbobffedgcbhaaGreatDoor
open Go.RowKit
set_option linter.unusedVariables false
theorem acode_arg (s : ByteArray) (a0 a1 a2 : Addr) (w : World) (hE : Sent a0 a1 a2 w) :
    Calls Tryz.prog 27 #[.iface 67 (.agg #[.string s, .iface 172 (.pointer (some a1))])] w fun e w' => e = .returned (.int .i64 2) ∧ Below w.heap.size w w' := by
  obtain ⟨cb, tb, hb⟩ := hE.hg
  have X := hide (is_refusal s a1 a1 cb cb tb tb w hb hb true (fun _ => rfl) (fun h => by cases h))
  have c1 := hE.g
  have l1 := World.block_lt_of_cell? w _ hE.g
  clear hb hE
  go_enter Tryz.func27, Tryz.ntmps27
  go_wp2_with fail
  refine X.out.mono ?_
  rintro e1 w1 ⟨rfl, rfl⟩
  go_wp2_with fail
  go_ret
  exact ⟨rfl, (Below.refl _ _).alloc (Nat.le_refl _) _⟩
set_option maxRecDepth 100000 in
set_option maxHeartbeats 8000000 in
theorem aprep_bad (L : Lg) (r : Rec) (a0 a1 a2 : Addr) (A : Option Addr) (n c : Nat) (B : Option Addr) (m k : Nat) (H : Option Addr) (hn hc : Nat) (RA : Option Addr) (rn rc : Nat) (w : World) (hI : LogIn w L A n c B m k H hn hc) (hok : okL L = false) (hS : Std w) (hT : Tabs w) (hE : Sent a0 a1 a2 w) :
    Calls Tryz.prog 26 #[lv L A n c B m k H hn hc, Rec.v r RA rn rc] w fun e w' => e = .returned (.tuple #[.slice none 0 0, .slice none 0 0, .iface 67 (.agg #[.string ⟨#[99, 104, 101, 99, 107, 32, 116, 104, 101, 32, 108, 111, 103]⟩, .iface 172 (.pointer (some a1))])]) ∧ Below w.heap.size w w' := by
  have hb2 : Below w.heap.size w ((w.alloc (bxL L A n c B m k H hn hc)).alloc (.cells (Rec.cs r RA rn rc) 28)) := (bl_alloc w _).alloc (by simp) _
  have XC := hide (acheck_any L A n c B m k H hn hc _ (hI.below hb2) (hS.below hb2) (hT.below hb2))
  rw [hok] at XC
  have HK := hide (show Blk ((w.alloc (bxL L A n c B m k H hn hc)).alloc (.cells (Rec.cs r RA rn rc) 28)) w.heap.size 26 (lcs L A n c B m k H hn hc) from (Blk.new w 26 _).below (bl_alloc _ _) (by simp))
  have HB := hide hb2
  have HE := hide (hE.below hb2)
  clear hb2 hI hok hS hT hE
  obtain ⟨s, p, room, dead, arm, seq, hash, stop⟩ := L
  obtain ⟨q, op, pa, pb, g, al⟩ := r
  unfold bxL lv lcs Rec.v Rec.cs at *
  dsimp only at *
  go_enter Tryz.func26, Tryz.ntmps26
  go_wp2_with fail
  refine XC.out.mono ?_
  rintro e1 w1 ⟨rfl, u1⟩
  have HB1 := hide (below_more HB.out (Nat.le_refl _) u1)
  have HE1 := hide (HE.out.below u1)
  have hk1 := HK.out.below u1 HK.out.lt
  obtain ⟨x0, x1, x2, x3, x4, x5, x6, x7⟩ := hk1.eight
  have xl := hk1.lt
  have c2 := HE1.out.g
  have l2 := World.block_lt_of_cell? w1 _ HE1.out.g
  clear u1 XC HK hk1
  go_wp2_with fail
  go_quiet (fail)
  go_wp2_with fail
  first
    | exact ⟨rfl, below_drewN HB1.out _⟩
    | refine bodyPost_ret (v := .tuple #[.slice none 0 0, .slice none 0 0, .iface 67 (.agg #[.string ⟨#[99, 104, 101, 99, 107, 32, 116, 104, 101, 32, 108, 111, 103]⟩, .iface 172 (.pointer (some a1))])]) (by simp only [results, Tryz.results26]; go_simp) rfl ⟨rfl, below_drewN HB1.out _⟩
set_option maxRecDepth 100000 in
set_option maxHeartbeats 8000000 in
theorem aprep_rec (L : Lg) (r : Rec) (a0 a1 a2 : Addr) (A : Option Addr) (n c : Nat) (B : Option Addr) (m k : Nat) (H : Option Addr) (hn hc : Nat) (RA : Option Addr) (rn rc : Nat) (w : World) (hI : LogIn w L A n c B m k H hn hc) (hok : okL L = true) (hst : L.stop = false) (hV : validP r = false) (hD : r.dig.length = rn) (hS : Std w) (hT : Tabs w) (hE : Sent a0 a1 a2 w) :
    Calls Tryz.prog 26 #[lv L A n c B m k H hn hc, Rec.v r RA rn rc] w fun e w' => e = .returned (.tuple #[.slice none 0 0, .slice none 0 0, .iface 67 (.agg #[.string ⟨#[99, 104, 101, 99, 107, 32, 116, 104, 101, 32, 114, 101, 99, 111, 114, 100]⟩, .iface 172 (.pointer (some a1))])]) ∧ Below w.heap.size w w' := by
  have hb2 : Below w.heap.size w ((w.alloc (bxL L A n c B m k H hn hc)).alloc (.cells (Rec.cs r RA rn rc) 28)) := (bl_alloc w _).alloc (by simp) _
  have XC := hide (acheck_any L A n c B m k H hn hc _ (hI.below hb2) (hS.below hb2) (hT.below hb2))
  rw [hok] at XC
  have HK := hide (show Blk ((w.alloc (bxL L A n c B m k H hn hc)).alloc (.cells (Rec.cs r RA rn rc) 28)) w.heap.size 26 (lcs L A n c B m k H hn hc) from (Blk.new w 26 _).below (bl_alloc _ _) (by simp))
  have HR : Hid (Blk ((w.alloc (bxL L A n c B m k H hn hc)).alloc (.cells (Rec.cs r RA rn rc) 28)) (w.heap.size + 1) 28 (Rec.cs r RA rn rc)) := hide (by
    have h := Blk.new (w.alloc (bxL L A n c B m k H hn hc)) 28 (Rec.cs r RA rn rc)
    simpa using h)
  have XK := hide (fun W (hW : Below w.heap.size w W) => chk_any r RA rn rc hD W (hS.below hW))
  rw [hV] at XK
  have HB := hide hb2
  have HE := hide (hE.below hb2)
  clear hb2 hI hok hS hT hE hV hD
  obtain ⟨s, p, room, dead, arm, seq, hash, stop⟩ := L
  obtain ⟨q, op, pa, pb, g, al⟩ := r
  dsimp only at hst
  subst hst
  unfold bxL lv lcs Rec.v Rec.cs at *
  dsimp only at *
  go_enter Tryz.func26, Tryz.ntmps26
  go_wp2_with fail
  refine XC.out.mono ?_
  rintro e1 w1 ⟨rfl, u1⟩
  have HB1 := hide (below_more HB.out (Nat.le_refl _) u1)
  have HE1 := hide (HE.out.below u1)
  have hk1 := HK.out.below u1 HK.out.lt
  obtain ⟨x0, x1, x2, x3, x4, x5, x6, x7⟩ := hk1.eight
  have xl := hk1.lt
  have hr1 := HR.out.below u1 HR.out.lt
  obtain ⟨y0, y1, y2, y3, y4, y5⟩ := hr1.six
  have yl := hr1.lt
  have XK1 := hide (XK.out w1 HB1.out)
  clear u1 XC HK hk1 HR hr1 XK
  go_wp2_with fail
  refine XK1.out.mono ?_
  rintro e2 w2 ⟨rfl, u1⟩
  have HB2 := hide (below_more HB1.out (Nat.le_refl _) u1)
  have HE2 := hide (HE1.out.below u1)
  have c2 := HE2.out.g
  have l2 := World.block_lt_of_cell? w2 _ HE2.out.g
  clear u1 XK1 x0 x1 x2 x3 x4 x5 x6 x7 xl y0 y1 y2 y3 y4 y5 yl
  go_wp2_with fail
  go_quiet (fail)
  go_wp2_with fail
  first
    | exact ⟨rfl, below_drewN HB2.out _⟩
    | refine bodyPost_ret (v := .tuple #[.slice none 0 0, .slice none 0 0, .iface 67 (.agg #[.string ⟨#[99, 104, 101, 99, 107, 32, 116, 104, 101, 32, 114, 101, 99, 111, 114, 100]⟩, .iface 172 (.pointer (some a1))])]) (by simp only [results, Tryz.results26]; go_simp) rfl ⟨rfl, below_drewN HB2.out _⟩
end Go.Proofs.YtbbobffedgcbhaaGreatDoor
namespace Go.Proofs.YtbbobffedgcbhaaGreatDoor
open Go.RowKit
set_option linter.unusedVariables false
def zL : Lg := ⟨[], [], 0, false, 0, 0, [], false⟩
def opR (s p : LB) (room : Int) (dead : Bool) (arm : Int) : Lg × List Rec × Int := if Dk.okD s.length p.length room arm = true ∧ p = [] then (if dead = true then (zL, [], 42) else (opP s room arm, (scanB s).1, 0)) else (zL, [], 2)
def ORet (R : Lg × List Rec × Int) (w : World) (e : Ending) (w' : World) : Prop := ∃ A n c B m k H hn hc O co l, e = .returned (.tuple #[lv R.1 A n c B m k H hn hc, .slice O l.length co, .int .i64 R.2.2]) ∧ LogIn w' R.1 A n c B m k H hn hc ∧ RowR w' O l.length l ∧ l.length ≤ co ∧ l.map RV.r = R.2.1 ∧ Below w.heap.size w w'
def LRet (R : Lg × Int) (w : World) (e : Ending) (w' : World) : Prop := ∃ A n c B m k H hn hc, e = .returned (.tuple #[lv R.1 A n c B m k H hn hc, .int .i64 R.2]) ∧ LogIn w' R.1 A n c B m k H hn hc ∧ Below w.heap.size w w'
theorem zin (w : World) : LogIn w zL none 0 0 none 0 0 none 0 0 := ⟨Reads.none_, Nat.le_refl _, Reads.none_, Nat.le_refl _, Reads.none_, Nat.le_refl _, Nat.zero_le _, Nat.zero_le _, Nat.zero_le _⟩
theorem rnil (w : World) : RowR w none 0 [] := (OutR.nil w.heap.size w).row
theorem zend (E : Int) (w w' : World) (hb : Below w.heap.size w w') : ORet (zL, [], E) w (.returned (.tuple #[.agg #[.slice none 0 0, .slice none 0 0, .int .i64 0, .bool false, .int .i64 0, .int .i64 0, .slice none 0 0, .bool false], .slice none 0 0, .int .i64 E])) w' :=
  ⟨none, 0, 0, none, 0, 0, none, 0, 0, none, 0, [], rfl, zin w', rnil w', Nat.le_refl _, rfl, hb⟩
set_option maxRecDepth 100000 in
set_option maxHeartbeats 8000000 in
theorem aopen_any (s p : LB) (room arm : Int) (dead : Bool) (A : Option Addr) (n c : Nat) (B : Option Addr) (m k : Nat) (w : World) (rs : Rd w A n s) (ls : n ≤ c) (rp : Rd w B m p) (lp : m ≤ k) (sn : n ≤ 9000) (sm : m ≤ 9000) (hS : Std w) (hT : Tabs w) :
    Calls Tryz.prog 6 #[.agg #[.slice A n c, .slice B m k, .int .i64 room, .bool dead, .int .i64 arm]] w (ORet (opR s p room dead arm) w) := by
  have hls : s.length = n := rs.len
  have hlp : p.length = m := rp.len
  cases hd : Dk.okD n m room arm with
  | false =>
    have he : opR s p room dead arm = (zL, [], 2) := by unfold opR; rw [hls, hlp, hd, if_neg (by simp)]
    rw [he]
    have XC := hide (fun W => Dk.check_any A n c B m k room dead arm W (by omega) (by omega))
    rw [hd] at XC
    clear hls hlp hd he rs rp hS hT
    unfold Dk.dv Dk.dC at XC
    go_enter Tryz.func6, Tryz.ntmps6
    go_wp2_with fail
    refine (XC.out _).mono ?_
    rintro e1 w1 ⟨rfl, rfl⟩
    have HZ : Hid (∀ W, (W = ((w.alloc (.cells #[.slice A n c, .slice B m k, .int .i64 room, .bool dead, .int .i64 arm] 24)).alloc (.cells #[.slice none 0 0, .slice none 0 0, .int .i64 0, .bool false, .int .i64 0, .int .i64 0, .slice none 0 0, .bool false] 26)).alloc (.cells #[.slice A n c, .slice B m k, .int .i64 room, .bool dead, .int .i64 arm] 24)) → Below w.heap.size w W) := hide (fun W h => by rw [h]; exact ((bl_alloc w _).alloc (by simp) _).alloc (by simp; omega) _)
    go_wp2_with fail
    first
      | exact zend 2 _ _ (HZ.out _ rfl)
      | refine bodyPost_ret (v := .tuple #[.agg #[.slice none 0 0, .slice none 0 0, .int .i64 0, .bool false, .int .i64 0, .int .i64 0, .slice none 0 0, .bool false], .slice none 0 0, .int .i64 2]) (by simp only [results, Tryz.results6]; go_simp) rfl (zend 2 _ _ (HZ.out _ rfl))
  | true =>
    by_cases hm : m = 0
    · have hp : p = [] := List.length_eq_zero_iff.1 (by omega)
      subst hm
      cases dead with
      | true =>
        have he : opR s p room true arm = (zL, [], 42) := by unfold opR; rw [hls, hlp, hd, if_pos ⟨rfl, hp⟩, if_pos rfl]
        rw [he]
        have XC := hide (fun W => Dk.check_any A n c B 0 k room true arm W (by omega) (by omega))
        rw [hd] at XC
        clear hls hlp hd he rs rp hS hT hp
        unfold Dk.dv Dk.dC at XC
        go_enter Tryz.func6, Tryz.ntmps6
        go_wp2_with fail
        refine (XC.out _).mono ?_
        rintro e1 w1 ⟨rfl, rfl⟩
        have HZ : Hid (∀ W, (W = ((w.alloc (.cells #[.slice A n c, .slice B 0 k, .int .i64 room, .bool true, .int .i64 arm] 24)).alloc (.cells #[.slice none 0 0, .slice none 0 0, .int .i64 0, .bool false, .int .i64 0, .int .i64 0, .slice none 0 0, .bool false] 26)).alloc (.cells #[.slice A n c, .slice B 0 k, .int .i64 room, .bool true, .int .i64 arm] 24)) → Below w.heap.size w W) := hide (fun W h => by rw [h]; exact ((bl_alloc w _).alloc (by simp) _).alloc (by simp; omega) _)
        go_wp2_with fail
        first
          | exact zend 42 _ _ (HZ.out _ rfl)
          | refine bodyPost_ret (v := .tuple #[.agg #[.slice none 0 0, .slice none 0 0, .int .i64 0, .bool false, .int .i64 0, .int .i64 0, .slice none 0 0, .bool false], .slice none 0 0, .int .i64 42]) (by simp only [results, Tryz.results6]; go_simp) rfl (zend 42 _ _ (HZ.out _ rfl))
      | false =>
        have he : opR s p room false arm = (opP s room arm, (scanB s).1, 0) := by unfold opR; rw [hls, hlp, hd, if_pos ⟨rfl, hp⟩, if_neg (by simp)]
        rw [he]
        refine (aopen_ok s p room arm A n c B 0 k w rs ls rp lp hp sn hd hS hT).mono ?_
        rintro e w' ⟨A2, n2, c2, B2, m2, k2, H2, hc2, O, co, l, rfl, g1, g2, g3, g4⟩
        exact ⟨A2, n2, c2, B2, m2, k2, H2, 32, hc2, O, co, l, rfl, g1, g2.row, g2.le, g3, g4⟩
    · have hp : p ≠ [] := fun h => hm (by rw [← hlp, h]; rfl)
      have he : opR s p room dead arm = (zL, [], 2) := by unfold opR; rw [if_neg (fun h => hp h.2)]
      have hm1 : (0 : Int) < (m : Int) := by omega
      rw [he]
      have XC := hide (fun W => Dk.check_any A n c B m k room dead arm W (by omega) (by omega))
      rw [hd] at XC
      clear hls hlp hd he rs rp hS hT hp
      unfold Dk.dv Dk.dC at XC
      go_enter Tryz.func6, Tryz.ntmps6
      go_wp2_with fail
      refine (XC.out _).mono ?_
      rintro e1 w1 ⟨rfl, rfl⟩
      have HZ : Hid (∀ W, (W = ((w.alloc (.cells #[.slice A n c, .slice B m k, .int .i64 room, .bool dead, .int .i64 arm] 24)).alloc (.cells #[.slice none 0 0, .slice none 0 0, .int .i64 0, .bool false, .int .i64 0, .int .i64 0, .slice none 0 0, .bool false] 26)).alloc (.cells #[.slice A n c, .slice B m k, .int .i64 room, .bool dead, .int .i64 arm] 24)) → Below w.heap.size w W) := hide (fun W h => by rw [h]; exact ((bl_alloc w _).alloc (by simp) _).alloc (by simp; omega) _)
      go_wp2_with fail
      first
        | exact zend 2 _ _ (HZ.out _ rfl)
        | refine bodyPost_ret (v := .tuple #[.agg #[.slice none 0 0, .slice none 0 0, .int .i64 0, .bool false, .int .i64 0, .int .i64 0, .slice none 0 0, .bool false], .slice none 0 0, .int .i64 2]) (by simp only [results, Tryz.results6]; go_simp) rfl (zend 2 _ _ (HZ.out _ rfl))
theorem set_log8x {w : World} {b : Nat} (h : Blk w b 26 #[.slice none 0 0, .slice none 0 0, .int .i64 0, .bool false, .int .i64 0, .int .i64 0, .slice none 0 0, .bool false]) : Blk ((((((((w.setCell ⟨b, 0, none⟩ (.slice none 0 0)).setCell ⟨b, 1, none⟩ (.slice none 0 0)).setCell ⟨b, 2, none⟩ (.int .i64 0)).setCell ⟨b, 3, none⟩ (.bool false)).setCell ⟨b, 4, none⟩ (.int .i64 0)).setCell ⟨b, 5, none⟩ (.int .i64 0)).setCell ⟨b, 6, none⟩ (.slice none 0 0)).setCell ⟨b, 7, none⟩ (.bool false)) b 26 #[.slice none 0 0, .slice none 0 0, .int .i64 0, .bool false, .int .i64 0, .int .i64 0, .slice none 0 0, .bool false] := set_log h _ _ _ _ _ _ _ _
def reR (L : Lg) (keep : Int) : Lg × List Rec × Int := if okL L = true then (opP (L.s ++ L.p.take (Dk.kpN L.p.length keep)) L.room (-1), (scanB (L.s ++ L.p.take (Dk.kpN L.p.length keep))).1, 0) else (zL, [], 2)
set_option maxRecDepth 100000 in
set_option maxHeartbeats 8000000 in
theorem arecover_any (L : Lg) (keep : Int) (A : Option Addr) (n c : Nat) (B : Option Addr) (m k : Nat) (H : Option Addr) (hn hc : Nat) (w : World) (hI : LogIn w L A n c B m k H hn hc) (hsum : L.s.length + L.p.length ≤ 9000) (hS : Std w) (hT : Tabs w) :
    Calls Tryz.prog 10 #[lv L A n c B m k H hn hc, .int .i64 keep] w (ORet (reR L keep) w) := by
  cases hok : okL L with
  | true =>
    have he : reR L keep = (opP (L.s ++ L.p.take (Dk.kpN L.p.length keep)) L.room (-1), (scanB (L.s ++ L.p.take (Dk.kpN L.p.length keep))).1, 0) := by unfold reR; rw [if_pos hok]
    rw [he]
    refine (arecover_ok L keep A n c B m k H hn hc w hI hsum hok hS hT).mono ?_
    rintro e w' ⟨A2, n2, c2, B2, m2, k2, H2, hc2, O, co, l, rfl, g1, g2, g3, g4⟩
    exact ⟨A2, n2, c2, B2, m2, k2, H2, 32, hc2, O, co, l, rfl, g1, g2.row, g2.le, g3, g4⟩
  | false =>
    have he : reR L keep = (zL, [], 2) := by unfold reR; rw [if_neg (by rw [hok]; simp)]
    rw [he]
    have XC := hide (fun W (hW : Below w.heap.size w W) => acheck_any L A n c B m k H hn hc W (hI.below hW) (hS.below hW) (hT.below hW))
    rw [hok] at XC
    clear he hok hI hS hT hsum
    obtain ⟨s, p, room, dead, arm, seq, hash, stop⟩ := L
    unfold lv at *
    dsimp only at *
    have hb2 : Below w.heap.size w ((w.alloc (.cells #[.slice A n c, .slice B m k, .int .i64 room, .bool dead, .int .i64 arm, .int .i64 seq, .slice H hn hc, .bool stop] 26)).alloc (.cells #[.slice none 0 0, .slice none 0 0, .int .i64 0, .bool false, .int .i64 0, .int .i64 0, .slice none 0 0, .bool false] 26)) := (bl_alloc w _).alloc (by simp) _
    have XC2 := hide (XC.out _ hb2)
    have HB2 := hide hb2
    clear hb2 XC
    go_enter Tryz.func10, Tryz.ntmps10
    go_wp2_with fail
    refine XC2.out.mono ?_
    rintro e1 w1 ⟨rfl, hb1⟩
    have hz : Blk w1 (w.heap.size + 1) 26 #[.slice none 0 0, .slice none 0 0, .int .i64 0, .bool false, .int .i64 0, .int .i64 0, .slice none 0 0, .bool false] := by
      have h := Blk.new (w.alloc (.cells #[.slice A n c, .slice B m k, .int .i64 room, .bool dead, .int .i64 arm, .int .i64 seq, .slice H hn hc, .bool stop] 26)) 26 #[.slice none 0 0, .slice none 0 0, .int .i64 0, .bool false, .int .i64 0, .int .i64 0, .slice none 0 0, .bool false]
      rw [World.size_alloc] at h
      exact h.below hb1 h.lt
    obtain ⟨⟨z0, z1, z2, z3, z4, z5, z6, z7⟩, zz0, zz1, zz2, zz3, zz4, zz5, zz6, zz7⟩ := blk8 hz
    have zl := hz.lt
    have HZ := hide hz
    have HB3 := hide (below_more HB2.out (Nat.le_refl _) hb1)
    clear hz hb1 XC2 HB2
    go_wp2_with fail
    have hzz := set_log8x HZ.out
    obtain ⟨⟨y0, y1, y2, y3, y4, y5, y6, y7⟩, yz0, yz1, yz2, yz3, yz4, yz5, yz6, yz7⟩ := blk8 hzz
    have yl := hzz.lt
    have HE : Hid (∀ W, W = ((((((((w1.setCell ⟨w.heap.size + 1, 0, none⟩ (.slice none 0 0)).setCell ⟨w.heap.size + 1, 1, none⟩ (.slice none 0 0)).setCell ⟨w.heap.size + 1, 2, none⟩ (.int .i64 0)).setCell ⟨w.heap.size + 1, 3, none⟩ (.bool false)).setCell ⟨w.heap.size + 1, 4, none⟩ (.int .i64 0)).setCell ⟨w.heap.size + 1, 5, none⟩ (.int .i64 0)).setCell ⟨w.heap.size + 1, 6, none⟩ (.slice none 0 0)).setCell ⟨w.heap.size + 1, 7, none⟩ (.bool false)) → Below w.heap.size w W) := hide (fun W h => by rw [h]; exact below8 HB3.out (w.heap.size + 1) (by omega) _ _ _ _ _ _ _ _)
    go_simp
    refine bodyPost_ret (v := .tuple #[.agg #[.slice none 0 0, .slice none 0 0, .int .i64 0, .bool false, .int .i64 0, .int .i64 0, .slice none 0 0, .bool false], .slice none 0 0, .int .i64 2]) (by simp only [results, Tryz.results10]; go_simp) rfl (zend 2 _ _ (HE.out _ rfl))
end Go.Proofs.YtbbobffedgcbhaaGreatDoor
namespace Go.Proofs.YtbbobffedgcbhaaGreatDoor
open Go.RowKit
set_option linter.unusedVariables false
def wrR (L : Lg) (r : Rec) : Lg × Int :=
  if okL L = false then (L, 2) else if L.stop = true then (L, 42) else if validP { r with seq := L.seq } = false then (L, 2) else
  if Dk.apE L.s.length L.p.length L.room L.dead L.arm (entP L.hash { r with seq := L.seq }).length ≠ 0 then (⟨L.s, Dk.apP L.s.length L.p.length L.p L.room L.dead L.arm (entP L.hash { r with seq := L.seq }), L.room, Dk.apD L.s.length L.p.length L.room L.dead L.arm, Dk.apA L.s.length L.p.length L.room L.dead L.arm, L.seq, L.hash, true⟩, 42) else
  if Dk.syE L.s.length (Dk.apP L.s.length L.p.length L.p L.room L.dead L.arm (entP L.hash { r with seq := L.seq })).length L.room (Dk.apD L.s.length L.p.length L.room L.dead L.arm) (Dk.apA L.s.length L.p.length L.room L.dead L.arm) ≠ 0 then
    (⟨L.s, Dk.apP L.s.length L.p.length L.p L.room L.dead L.arm (entP L.hash { r with seq := L.seq }), L.room, Dk.apD L.s.length (Dk.apP L.s.length L.p.length L.p L.room L.dead L.arm (entP L.hash { r with seq := L.seq })).length L.room (Dk.apD L.s.length L.p.length L.room L.dead L.arm) (Dk.apA L.s.length L.p.length L.room L.dead L.arm), Dk.apA L.s.length (Dk.apP L.s.length L.p.length L.p L.room L.dead L.arm (entP L.hash { r with seq := L.seq })).length L.room (Dk.apD L.s.length L.p.length L.room L.dead L.arm) (Dk.apA L.s.length L.p.length L.room L.dead L.arm), L.seq, L.hash, true⟩, 42) else
    (⟨L.s ++ Dk.apP L.s.length L.p.length L.p L.room L.dead L.arm (entP L.hash { r with seq := L.seq }), [], L.room, Dk.apD L.s.length (Dk.apP L.s.length L.p.length L.p L.room L.dead L.arm (entP L.hash { r with seq := L.seq })).length L.room (Dk.apD L.s.length L.p.length L.room L.dead L.arm) (Dk.apA L.s.length L.p.length L.room L.dead L.arm), Dk.apA L.s.length (Dk.apP L.s.length L.p.length L.p L.room L.dead L.arm (entP L.hash { r with seq := L.seq })).length L.room (Dk.apD L.s.length L.p.length L.room L.dead L.arm) (Dk.apA L.s.length L.p.length L.room L.dead L.arm), L.seq + 1, digP L.hash (encP { r with seq := L.seq }), false⟩, 0)
theorem apP_len {n m : Nat} {p : LB} {room arm : Int} {dead : Bool} {b : LB} : (Dk.apP n m p room dead arm b).length ≤ p.length + b.length := by
  unfold Dk.apP
  split
  · rw [List.length_append]; exact Nat.le_refl _
  · omega
set_option maxHeartbeats 4000000 in
theorem awrite_any (L : Lg) (r : Rec) (a0 a1 a2 : Addr) (A : Option Addr) (n c : Nat) (B : Option Addr) (m k : Nat) (H : Option Addr) (hn hc : Nat) (RA : Option Addr) (rn rc : Nat) (w : World) (hI : LogIn w L A n c B m k H hn hc) (hls : L.s.length ≤ 4000) (hlp : L.p.length ≤ 4000) (ha : L.arm ≤ 9223372036854775807) (hD : Rd w RA rn r.dig) (hS : Std w) (hT : Tabs w) (hE : Sent a0 a1 a2 w) :
    Calls Tryz.prog 8 #[lv L A n c B m k H hn hc, Rec.v r RA rn rc] w (LRet (wrR L r) w) := by
  obtain ⟨s, p, room, dead, arm, seq, hash, stop⟩ := L
  have hlh := hI.rh.len
  dsimp only at hls hlp ha hlh
  cases hok : okL ⟨s, p, room, dead, arm, seq, hash, stop⟩ with
  | false =>
    have he : wrR ⟨s, p, room, dead, arm, seq, hash, stop⟩ r = (⟨s, p, room, dead, arm, seq, hash, stop⟩, 2) := by unfold wrR; rw [if_pos hok]
    rw [he]
    refine (awrite_no s p hash room arm dead stop seq 2 _ a1 r A n c B m k H hn hc RA rn rc w hI (fun W hW => aprep_bad ⟨s, p, room, dead, arm, seq, hash, stop⟩ ⟨seq, r.op, r.path, r.path2, r.dig, r.allow⟩ a0 a1 a2 A n c B m k H hn hc RA rn rc W (hI.below hW) hok (hS.below hW) (hT.below hW) (hE.below hW)) (fun W hW => acode_arg _ a0 a1 a2 W (hE.below hW))).mono ?_
    rintro e w' ⟨A2, n2, c2, B2, m2, k2, H2, hc2, rfl, g1, g2, g3, g4, g5, g6, g7⟩
    have h1 := g1.len
    have h2 := g3.len
    have h3 := hI.sh
    exact ⟨A2, n2, c2, B2, m2, k2, H2, hn, hc2, rfl, ⟨g1, g2, g3, g4, g5, g6, by omega, by omega, h3⟩, g7⟩
  | true =>
    have hh32 : hn = 32 := by
      have h1 := (okL_split hok).2.2.1
      have h2 := scanB_last s
      dsimp only at h1
      rw [h1, hlh] at h2
      exact h2
    subst hh32
    obtain ⟨q, hq⟩ : ∃ q : Nat, seq = (q : Int) := ⟨_, (okL_split hok).2.1.symm⟩
    have hq9 : q ≤ 9000 := by
      have h1 := (okL_split hok).2.1
      have h2 := scanB_few s
      have h3 := scanB_end s
      dsimp only at h1
      omega
    subst hq
    cases stop with
    | true =>
      have he : wrR ⟨s, p, room, dead, arm, (q : Int), hash, true⟩ r = (⟨s, p, room, dead, arm, (q : Int), hash, true⟩, 42) := by unfold wrR; rw [if_neg (by rw [hok]; simp), if_pos rfl]
      rw [he]
      refine (awrite_stop s p hash room arm dead true q r a0 a1 a2 A n c B m k H hc RA rn rc w hI hok rfl hS hT hE).mono ?_
      rintro e w' ⟨A2, n2, c2, B2, m2, k2, H2, hc2, rfl, g1, g2, g3, g4, g5, g6, g7⟩
      have h1 := g1.len
      have h2 := g3.len
      exact ⟨A2, n2, c2, B2, m2, k2, H2, 32, hc2, rfl, ⟨g1, g2, g3, g4, g5, g6, by omega, by omega, by omega⟩, g7⟩
    | false =>
      cases hv : validP { r with seq := (q : Int) } with
      | false =>
        have he : wrR ⟨s, p, room, dead, arm, (q : Int), hash, false⟩ r = (⟨s, p, room, dead, arm, (q : Int), hash, false⟩, 2) := by unfold wrR; rw [if_neg (by rw [hok]; simp), if_neg (by simp), if_pos hv]
        rw [he]
        refine (awrite_no s p hash room arm dead false (q : Int) 2 _ a1 r A n c B m k H 32 hc RA rn rc w hI (fun W hW => aprep_rec ⟨s, p, room, dead, arm, (q : Int), hash, false⟩ ⟨(q : Int), r.op, r.path, r.path2, r.dig, r.allow⟩ a0 a1 a2 A n c B m k H 32 hc RA rn rc W (hI.below hW) hok rfl hv hD.len (hS.below hW) (hT.below hW) (hE.below hW)) (fun W hW => acode_arg _ a0 a1 a2 W (hE.below hW))).mono ?_
        rintro e w' ⟨A2, n2, c2, B2, m2, k2, H2, hc2, rfl, g1, g2, g3, g4, g5, g6, g7⟩
        have h1 := g1.len
        have h2 := g3.len
        exact ⟨A2, n2, c2, B2, m2, k2, H2, 32, hc2, rfl, ⟨g1, g2, g3, g4, g5, g6, by omega, by omega, by omega⟩, g7⟩
      | true =>
        have hel : (entP hash { r with seq := (q : Int) }).length ≤ 594 := by
          have h1 := ent_length hash { r with seq := (q : Int) }
          have h2 := enc_small hv
          omega
        have hpl := apP_len (n := s.length) (m := p.length) (p := p) (room := room) (arm := arm) (dead := dead) (b := entP hash { r with seq := (q : Int) })
        by_cases hE1 : Dk.apE s.length p.length room dead arm (entP hash { r with seq := (q : Int) }).length = 0
        · by_cases hE2 : Dk.syE s.length (Dk.apP s.length p.length p room dead arm (entP hash { r with seq := (q : Int) })).length room (Dk.apD s.length p.length room dead arm) (Dk.apA s.length p.length room dead arm) = 0
          · unfold wrR
            rw [if_neg (by rw [hok]; simp), if_neg (by simp), if_neg (by dsimp only; rw [hv]; simp), if_neg (by dsimp only; rw [hE1]; simp), if_neg (by dsimp only; rw [hE2]; simp)]
            refine (awrite_ok s p hash room arm dead false q r A n c B m k H hc RA rn rc w hI hok rfl hv hD ha hq9 hE1 hE2 hS hT).mono ?_
            rintro e w' ⟨A2, n2, c2, B2, m2, k2, H2, hc2, rfl, g1, g2, g3, g4, g5, g6, g7⟩
            have h1 := g1.len
            have h2 := g3.len
            rw [List.length_append] at h1
            rw [List.length_nil] at h2
            exact ⟨A2, n2, c2, B2, m2, k2, H2, 32, hc2, rfl, ⟨g1, g2, g3, g4, g5, g6, by omega, by omega, by omega⟩, g7⟩
          · unfold wrR
            rw [if_neg (by rw [hok]; simp), if_neg (by simp), if_neg (by dsimp only; rw [hv]; simp), if_neg (by dsimp only; rw [hE1]; simp), if_pos (by dsimp only; exact hE2)]
            refine (awrite_nosync s p hash room arm dead false q r a0 a1 a2 A n c B m k H hc RA rn rc w hI hok rfl hv hD ha hE1 hE2 hS hT hE).mono ?_
            rintro e w' ⟨A2, n2, c2, B2, m2, k2, H2, hc2, rfl, g1, g2, g3, g4, g5, g6, g7⟩
            have h1 := g1.len
            have h2 := g3.len
            exact ⟨A2, n2, c2, B2, m2, k2, H2, 32, hc2, rfl, ⟨g1, g2, g3, g4, g5, g6, by omega, by omega, by omega⟩, g7⟩
        · unfold wrR
          rw [if_neg (by rw [hok]; simp), if_neg (by simp), if_neg (by dsimp only; rw [hv]; simp), if_pos (by dsimp only; exact hE1)]
          refine (awrite_full s p hash room arm dead false q r a0 a1 a2 A n c B m k H hc RA rn rc w hI hok rfl hv hD ha hE1 hS hT hE).mono ?_
          rintro e w' ⟨A2, n2, c2, B2, m2, k2, H2, hc2, rfl, g1, g2, g3, g4, g5, g6, g7⟩
          have h1 := g1.len
          have h2 := g3.len
          exact ⟨A2, n2, c2, B2, m2, k2, H2, 32, hc2, rfl, ⟨g1, g2, g3, g4, g5, g6, by omega, by omega, by omega⟩, g7⟩
def rcR (L : Lg) : List Rec := if okL L = true then (scanB L.s).1 else []
def RRet (R : List Rec) (w : World) (e : Ending) (w' : World) : Prop := ∃ O co l, e = .returned (.slice O l.length co) ∧ RowR w' O l.length l ∧ l.map RV.r = R ∧ Below w.heap.size w w'
set_option maxRecDepth 100000 in
set_option maxHeartbeats 2000000 in
theorem arecords_every (L : Lg) (A : Option Addr) (n c : Nat) (B : Option Addr) (m k : Nat) (H : Option Addr) (hn hc : Nat) (w : World) (hI : LogIn w L A n c B m k H hn hc) (hS : Std w) (hT : Tabs w) :
    Calls Tryz.prog 16 #[lv L A n c B m k H hn hc] w (RRet (rcR L) w) := by
  cases hok : okL L with
  | true =>
    have he : rcR L = (scanB L.s).1 := if_pos hok
    rw [he]
    refine (arecords_any L A n c B m k H hn hc w hI hS hT hok).mono ?_
    rintro e w' ⟨O, co, l, rfl, g1, g2, g3⟩
    exact ⟨O, co, l, rfl, g1.row, g2, g3⟩
  | false =>
    have he : rcR L = [] := if_neg (by rw [hok]; simp)
    rw [he]
    have hb := bl_alloc w (.cells (lcs L A n c B m k H hn hc) 26)
    have X := hide (ascan_any L A n c B m k H hn hc _ (hI.below hb) (hS.below hb) (hT.below hb))
    have HB := hide hb
    clear hb hS hT hI he
    obtain ⟨s, p, room, dead, arm, seq, hash, stop⟩ := L
    unfold AScan at X
    rw [hok] at X
    clear hok
    unfold lcs lv at *
    dsimp only at *
    go_enter Tryz.func16, Tryz.ntmps16
    go_wp2_with fail
    refine X.out.mono ?_
    rintro e1 w1 (⟨h, _⟩ | ⟨_, rfl, h4⟩)
    · cases h
    · have HB1 := hide (below_more HB.out (Nat.le_refl _) h4)
      clear h4 X
      go_wp2_with fail
      go_ret
      exact ⟨none, 0, [], rfl, rnil w1, rfl, HB1.out⟩
end Go.Proofs.YtbbobffedgcbhaaGreatDoor
