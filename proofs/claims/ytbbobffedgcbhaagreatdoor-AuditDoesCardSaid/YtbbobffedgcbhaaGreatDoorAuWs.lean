/- audit.Write: a log that has stopped. -/
import Derived.Test.YtbbobffedgcbhaaGreatDoorAuW
namespace Go.Proofs.YtbbobffedgcbhaaGreatDoor
open Go.RowKit
set_option linter.unusedVariables false
theorem own8 {w : World} {B : Nat} {t : TypeId} {size n : Nat} {v : Value} {xs : List Value} (h : w.ownsRow B t size v n xs) (b : Nat) (hb : b < B) (u0 u1 u2 u3 u4 u5 u6 u7 : Value) : ((((((((w.setCell ⟨b, 0, none⟩ u0).setCell ⟨b, 1, none⟩ u1).setCell ⟨b, 2, none⟩ u2).setCell ⟨b, 3, none⟩ u3).setCell ⟨b, 4, none⟩ u4).setCell ⟨b, 5, none⟩ u5).setCell ⟨b, 6, none⟩ u6).setCell ⟨b, 7, none⟩ u7).ownsRow B t size v n xs := (own_far (p := ⟨b, 7, none⟩) (own_far (p := ⟨b, 6, none⟩) (own_far (p := ⟨b, 5, none⟩) (own_far (p := ⟨b, 4, none⟩) (own_far (p := ⟨b, 3, none⟩) (own_far (p := ⟨b, 2, none⟩) (own_far (p := ⟨b, 1, none⟩) (own_far (p := ⟨b, 0, none⟩) h hb u0) hb u1) hb u2) hb u3) hb u4) hb u5) hb u6) hb u7)
theorem below8 {w w0 : World} {B : Nat} (h : Below B w0 w) (b : Nat) (hb : B ≤ b) (u0 u1 u2 u3 u4 u5 u6 u7 : Value) : Below B w0 ((((((((w.setCell ⟨b, 0, none⟩ u0).setCell ⟨b, 1, none⟩ u1).setCell ⟨b, 2, none⟩ u2).setCell ⟨b, 3, none⟩ u3).setCell ⟨b, 4, none⟩ u4).setCell ⟨b, 5, none⟩ u5).setCell ⟨b, 6, none⟩ u6).setCell ⟨b, 7, none⟩ u7) := ((((((((h.setCell (p := ⟨b, 0, none⟩) hb u0).setCell (p := ⟨b, 1, none⟩) hb u1).setCell (p := ⟨b, 2, none⟩) hb u2).setCell (p := ⟨b, 3, none⟩) hb u3).setCell (p := ⟨b, 4, none⟩) hb u4).setCell (p := ⟨b, 5, none⟩) hb u5).setCell (p := ⟨b, 6, none⟩) hb u6).setCell (p := ⟨b, 7, none⟩) hb u7)
/-- Nothing was written. -/
def WNo (s p hash : LB) (room : Int) (dead : Bool) (arm seq : Int) (stop : Bool) (w : World) (e : Ending) (w' : World) : Prop := ∃ A n c B m k H hc, e = .returned (.tuple #[.agg #[.slice A n c, .slice B m k, .int .i64 room, .bool dead, .int .i64 arm, .int .i64 seq, .slice H 32 hc, .bool stop], .int .i64 42]) ∧ Rd w' A n s ∧ n ≤ c ∧ Rd w' B m p ∧ m ≤ k ∧ Rd w' H 32 hash ∧ 32 ≤ hc ∧ Below w.heap.size w w'
set_option maxRecDepth 100000 in
set_option maxHeartbeats 32000000 in
theorem awrite_stop (s p hash : LB) (room arm : Int) (dead stop : Bool) (q : Nat) (r : Rec) (a0 a1 a2 : Addr) (A : Option Addr) (n c : Nat) (B : Option Addr) (m k : Nat) (H : Option Addr) (hc : Nat) (RA : Option Addr) (rn rc : Nat) (w : World) (hI : LogIn w ⟨s, p, room, dead, arm, (q : Int), hash, stop⟩ A n c B m k H 32 hc) (hok : okL ⟨s, p, room, dead, arm, (q : Int), hash, stop⟩ = true) (hst : stop = true) (hS : Std w) (hT : Tabs w) (hE : Sent a0 a1 a2 w) :
    Calls Tryz.prog 8 #[.agg #[Value.slice A n c, .slice B m k, .int .i64 room, .bool dead, .int .i64 arm, .int .i64 (q : Int), .slice H 32 hc, .bool stop], Rec.v r RA rn rc] w (WNo s p hash room dead arm (q : Int) stop w) := by
  obtain ⟨sq, op, pa, pb, g, al⟩ := r
  unfold Rec.v
  dsimp only
  have XG := hide (fun W (hW : Below w.heap.size w W) => clog_any ⟨s, p, room, dead, arm, (q : Int), hash, stop⟩ A n c B m k H 32 hc W (hI.below hW))
  have XP := hide (fun W (hW : Below w.heap.size w W) => aprep_stop ⟨s, p, room, dead, arm, (q : Int), hash, stop⟩ ⟨(q : Int), op, pa, pb, g, al⟩ a0 a1 a2 A n c B m k H 32 hc RA rn rc W (hI.below hW) hok hst (hS.below hW) (hT.below hW) (hE.below hW))
  unfold lv Rec.v at XP
  unfold lv at XG
  dsimp only at XP XG
  have HST := hide hst
  have HEN := hide hE
  clear hst hE
  have hb3 : Below w.heap.size w (((w.alloc (.cells #[Value.slice A n c, .slice B m k, .int .i64 room, .bool dead, .int .i64 arm, .int .i64 (q : Int), .slice H 32 hc, .bool stop] 26)).alloc (.cells #[Value.int .i64 sq, .int .i64 op, .string ⟨pa.toArray⟩, .string ⟨pb.toArray⟩, .slice RA rn rc, .bool al] 28)).alloc (.cells #[Value.slice none 0 0, .slice none 0 0, .int .i64 0, .bool false, .int .i64 0, .int .i64 0, .slice none 0 0, .bool false] 26)) := ((bl_alloc w _).alloc (by simp) _).alloc (by simp; omega) _
  obtain ⟨W0, hW0⟩ : ∃ W, (((w.alloc (.cells #[Value.slice A n c, .slice B m k, .int .i64 room, .bool dead, .int .i64 arm, .int .i64 (q : Int), .slice H 32 hc, .bool stop] 26)).alloc (.cells #[Value.int .i64 sq, .int .i64 op, .string ⟨pa.toArray⟩, .string ⟨pb.toArray⟩, .slice RA rn rc, .bool al] 28)).alloc (.cells #[Value.slice none 0 0, .slice none 0 0, .int .i64 0, .bool false, .int .i64 0, .int .i64 0, .slice none 0 0, .bool false] 26)) = W := ⟨_, rfl⟩
  have HB0 : Hid (Below w.heap.size w W0) := hide (by rw [← hW0]; exact hb3)
  have HL0 : Hid (Blk W0 w.heap.size 26 #[Value.slice A n c, .slice B m k, .int .i64 room, .bool dead, .int .i64 arm, .int .i64 (q : Int), .slice H 32 hc, .bool stop]) := hide (by rw [← hW0]; exact ((Blk.new w 26 #[Value.slice A n c, .slice B m k, .int .i64 room, .bool dead, .int .i64 arm, .int .i64 (q : Int), .slice H 32 hc, .bool stop]).alloc _).alloc _)
  have HR0 : Hid (Blk W0 (w.heap.size + 1) 28 #[Value.int .i64 sq, .int .i64 op, .string ⟨pa.toArray⟩, .string ⟨pb.toArray⟩, .slice RA rn rc, .bool al]) := hide (by
    rw [← hW0]
    have h := (Blk.new (w.alloc (.cells #[Value.slice A n c, .slice B m k, .int .i64 room, .bool dead, .int .i64 arm, .int .i64 (q : Int), .slice H 32 hc, .bool stop] 26)) 28 #[Value.int .i64 sq, .int .i64 op, .string ⟨pa.toArray⟩, .string ⟨pb.toArray⟩, .slice RA rn rc, .bool al]).alloc (.cells #[Value.slice none 0 0, .slice none 0 0, .int .i64 0, .bool false, .int .i64 0, .int .i64 0, .slice none 0 0, .bool false] 26)
    simpa only [World.size_alloc] using h)
  have HZ0 : Hid (Blk W0 (w.heap.size + 2) 26 #[Value.slice none 0 0, .slice none 0 0, .int .i64 0, .bool false, .int .i64 0, .int .i64 0, .slice none 0 0, .bool false]) := hide (by
    rw [← hW0]
    have h := Blk.new ((w.alloc (.cells #[Value.slice A n c, .slice B m k, .int .i64 room, .bool dead, .int .i64 arm, .int .i64 (q : Int), .slice H 32 hc, .bool stop] 26)).alloc (.cells #[Value.int .i64 sq, .int .i64 op, .string ⟨pa.toArray⟩, .string ⟨pb.toArray⟩, .slice RA rn rc, .bool al] 28)) 26 #[Value.slice none 0 0, .slice none 0 0, .int .i64 0, .bool false, .int .i64 0, .int .i64 0, .slice none 0 0, .bool false]
    simpa only [World.size_alloc] using h)
  clear hb3
  obtain ⟨⟨x0, x1, x2, x3, x4, x5, x6, x7⟩, xz0, xz1, xz2, xz3, xz4, xz5, xz6, xz7⟩ := blk8 HL0.out
  have xl := HL0.out.lt
  go_enter Tryz.func8, Tryz.ntmps8
  go_wp2_with fail
  refine (XG.out W0 HB0.out).mono ?_
  rintro e1 w1 ⟨A1, c1, B1, k1, H1, h1, rfl, g1, g2, g3, g4⟩
  clear hW0 x0 x1 x2 x3 x4 x5 x6 x7 xz0 xz1 xz2 xz3 xz4 xz5 xz6 xz7 xl
  have hw0 : w.heap.size + 2 < W0.heap.size := HZ0.out.lt
  have hw01 := g4.size
  have HB1 := hide (below_more HB0.out (Nat.le_refl _) g4)
  have HL1 := hide (HL0.out.below g4 HL0.out.lt)
  have HR1 := hide (HR0.out.below g4 HR0.out.lt)
  have HZ1 := hide (HZ0.out.below g4 HZ0.out.lt)
  obtain ⟨W2, hW2⟩ : ∃ W, (w1.setCell ⟨w.heap.size + 1, 0, none⟩ (.int .i64 (q : Int))).alloc (.cells #[Value.slice A1 n c1, .slice B1 m k1, .int .i64 room, .bool dead, .int .i64 arm, .int .i64 (q : Int), .slice H1 32 h1, .bool stop] 26) = W := ⟨_, rfl⟩
  have hbs : Below w.heap.size w (w1.setCell ⟨w.heap.size + 1, 0, none⟩ (.int .i64 (q : Int))) := HB1.out.setCell (Nat.le_succ _) _
  have hba := bl_alloc (w1.setCell ⟨w.heap.size + 1, 0, none⟩ (.int .i64 (q : Int))) (.cells #[Value.slice A1 n c1, .slice B1 m k1, .int .i64 room, .bool dead, .int .i64 arm, .int .i64 (q : Int), .slice H1 32 h1, .bool stop] 26)
  have HB2 : Hid (Below w.heap.size w W2) := hide (by rw [← hW2]; exact below_more hbs (Nat.le_refl _) hba)
  have hl2 := (HL1.out.far (p := ⟨w.heap.size + 1, 0, none⟩) (by show w.heap.size ≠ w.heap.size + 1; omega) (.int .i64 (q : Int)))
  have hr2 : Blk (w1.setCell ⟨w.heap.size + 1, 0, none⟩ (.int .i64 (q : Int))) (w.heap.size + 1) 28 #[Value.int .i64 (q : Int), .int .i64 op, .string ⟨pa.toArray⟩, .string ⟨pb.toArray⟩, .slice RA rn rc, .bool al] := HR1.out.set_ 0 _
  have hz2 := (HZ1.out.far (p := ⟨w.heap.size + 1, 0, none⟩) (by show w.heap.size + 2 ≠ w.heap.size + 1; omega) (.int .i64 (q : Int)))
  have HL2 : Hid (Blk W2 w.heap.size 26 #[Value.slice A n c, .slice B m k, .int .i64 room, .bool dead, .int .i64 arm, .int .i64 (q : Int), .slice H 32 hc, .bool stop]) := hide (by rw [← hW2]; exact hl2.below hba hl2.lt)
  have HR2 : Hid (Blk W2 (w.heap.size + 1) 28 #[Value.int .i64 (q : Int), .int .i64 op, .string ⟨pa.toArray⟩, .string ⟨pb.toArray⟩, .slice RA rn rc, .bool al]) := hide (by rw [← hW2]; exact hr2.below hba hr2.lt)
  have HZ2 : Hid (Blk W2 (w.heap.size + 2) 26 #[Value.slice none 0 0, .slice none 0 0, .int .i64 0, .bool false, .int .i64 0, .int .i64 0, .slice none 0 0, .bool false]) := hide (by rw [← hW2]; exact hz2.below hba hz2.lt)
  have HO2 : Hid (Blk W2 w1.heap.size 26 #[Value.slice A1 n c1, .slice B1 m k1, .int .i64 room, .bool dead, .int .i64 arm, .int .i64 (q : Int), .slice H1 32 h1, .bool stop]) := hide (by
    rw [← hW2]
    have h := Blk.new (w1.setCell ⟨w.heap.size + 1, 0, none⟩ (.int .i64 (q : Int))) 26 #[Value.slice A1 n c1, .slice B1 m k1, .int .i64 room, .bool dead, .int .i64 arm, .int .i64 (q : Int), .slice H1 32 h1, .bool stop]
    simpa only [World.size_setCell] using h)
  have HS2 : Hid (OwB W0.heap.size W2 A1 n c1 s) := hide (by rw [← hW2]; exact OwB.below (own_far g1 (by show w.heap.size + 1 < W0.heap.size; omega) _) hba)
  have HG2 : Hid (OwB W0.heap.size W2 H1 32 h1 hash) := hide (by rw [← hW2]; exact OwB.below (own_far g3 (by show w.heap.size + 1 < W0.heap.size; omega) _) hba)
  have HP2 : Hid (OwB W0.heap.size W2 B1 m k1 p) := hide (by rw [← hW2]; exact OwB.below (own_far g2 (by show w.heap.size + 1 < W0.heap.size; omega) _) hba)
  obtain ⟨⟨x0, x1, x2, x3, x4, x5, x6, x7⟩, xz0, xz1, xz2, xz3, xz4, xz5, xz6, xz7⟩ := blk8 HL1.out
  have xl := HL1.out.lt
  obtain ⟨⟨y0, y1, y2, y3, y4, y5⟩, yz0, yz1, yz2, yz3, yz4, yz5⟩ := blk6 HR1.out
  have yl := HR1.out.lt
  obtain ⟨⟨v0, v1, v2, v3, v4, v5, v6, v7⟩, vz0, vz1, vz2, vz3, vz4, vz5, vz6, vz7⟩ := blk8 HL2.out
  have vl := HL2.out.lt
  obtain ⟨⟨t0, t1, t2, t3, t4, t5⟩, tz0, tz1, tz2, tz3, tz4, tz5⟩ := blk6 HR2.out
  have tl := HR2.out.lt
  clear hbs hba hl2 hr2 hz2
  go_wp2_with fail
  refine (XP.out W2 HB2.out).mono ?_
  rintro e2 w3 ⟨rfl, u4⟩
  clear hW2 x0 x1 x2 x3 x4 x5 x6 x7 xz0 xz1 xz2 xz3 xz4 xz5 xz6 xz7 xl y0 y1 y2 y3 y4 y5 yz0 yz1 yz2 yz3 yz4 yz5 yl v0 v1 v2 v3 v4 v5 v6 v7 vz0 vz1 vz2 vz3 vz4 vz5 vz6 vz7 vl t0 t1 t2 t3 t4 t5 tz0 tz1 tz2 tz3 tz4 tz5 tl
  have HW2S := hide HO2.out.lt
  have HB3 := hide (below_more HB2.out (Nat.le_refl _) u4)
  have HZ3 := hide (HZ2.out.below u4 HZ2.out.lt)
  have HO3 := hide (HO2.out.below u4 HO2.out.lt)
  have HS3 := hide (HS2.out.below u4)
  have HP3 := hide (HP2.out.below u4)
  have HG3 := hide (HG2.out.below u4)
  have HE3 := hide (HEN.out.below HB3.out)
  have XC := hide (fun W (hW : Below w.heap.size w W) => acode_any ⟨#[119, 114, 105, 116, 101]⟩ a2 a0 a1 a2 W (HEN.out.below hW) (HEN.out.below hW).hs HEN.out.ns)
  clear u4 HL2 HR2 HZ2 HO2 HL1 HR1 HZ1 HL0 HR0 HZ0
  obtain ⟨⟨x0, x1, x2, x3, x4, x5, x6, x7⟩, xz0, xz1, xz2, xz3, xz4, xz5, xz6, xz7⟩ := blk8 HO3.out
  have xl := HO3.out.lt
  obtain ⟨⟨t0, t1, t2, t3, t4, t5, t6, t7⟩, tz0, tz1, tz2, tz3, tz4, tz5, tz6, tz7⟩ := blk8 HZ3.out
  have tl := HZ3.out.lt
  have hr0 : w.heap.size + 1 + 1 < W0.heap.size := hw0
  go_wp2_with fail
  go_region_law (first
    | (go_simp; go_at_call 27
       refine (XC.out w3.drew (Below.drew HB3.out)).mono ?_
       rintro e4 w4 ⟨rfl, g4⟩
       have hO4 : Blk w4 w1.heap.size 26 #[Value.slice A1 n c1, .slice B1 m k1, .int .i64 room, .bool dead, .int .i64 arm, .int .i64 (q : Int), .slice H1 32 h1, .bool stop] := Blk.below (h := (show Blk w3.drew w1.heap.size 26 #[Value.slice A1 n c1, .slice B1 m k1, .int .i64 room, .bool dead, .int .i64 arm, .int .i64 (q : Int), .slice H1 32 h1, .bool stop] from HO3.out)) (hb := g4) (by exact HO3.out.lt)
       have hZ4 : Blk w4 (w.heap.size + 1 + 1) 26 #[Value.slice none 0 0, .slice none 0 0, .int .i64 0, .bool false, .int .i64 0, .int .i64 0, .slice none 0 0, .bool false] := Blk.below (h := (show Blk w3.drew (w.heap.size + 1 + 1) 26 #[Value.slice none 0 0, .slice none 0 0, .int .i64 0, .bool false, .int .i64 0, .int .i64 0, .slice none 0 0, .bool false] from HZ3.out)) (hb := g4) (by exact HZ3.out.lt)
       have HZ4 := hide hZ4
       have HB4 : Hid (Below w.heap.size w w4) := hide ((Below.drew HB3.out).trans (g4.mono (by exact HB3.out.size)))
       have HS4 : Hid (OwB W0.heap.size w4 A1 n c1 s) := hide (OwB.below (w := w3.drew) HS3.out g4)
       have HP4 : Hid (OwB W0.heap.size w4 B1 m k1 p) := hide (OwB.below (w := w3.drew) HP3.out g4)
       have HG4 : Hid (OwB W0.heap.size w4 H1 32 h1 hash) := hide (OwB.below (w := w3.drew) HG3.out g4)
       clear g4
       obtain ⟨⟨i0, i1, i2, i3, i4, i5, i6, i7⟩, j0, j1, j2, j3, j4, j5, j6, j7⟩ := blk8 hO4
       obtain ⟨⟨m0, m1, m2, m3, m4, m5, m6, m7⟩, n0, n1, n2, n3, n4, n5, n6, n7⟩ := blk8 hZ4
       have hol := hO4.lt
       have hzl := hZ4.lt
       clear hO4 hZ4))
  all_goals
    clear x0 x1 x2 x3 x4 x5 x6 x7 xz0 xz1 xz2 xz3 xz4 xz5 xz6 xz7 xl t0 t1 t2 t3 t4 t5 t6 t7 tz0 tz1 tz2 tz3 tz4 tz5 tz6 tz7 tl
    obtain ⟨WE, hWE⟩ : ∃ W, ((((((((w4.setCell ⟨w.heap.size + 1 + 1, 0, none⟩ (.slice A1 n c1)).setCell ⟨w.heap.size + 1 + 1, 1, none⟩ (.slice B1 m k1)).setCell ⟨w.heap.size + 1 + 1, 2, none⟩ (.int .i64 room)).setCell ⟨w.heap.size + 1 + 1, 3, none⟩ (.bool dead)).setCell ⟨w.heap.size + 1 + 1, 4, none⟩ (.int .i64 arm)).setCell ⟨w.heap.size + 1 + 1, 5, none⟩ (.int .i64 (q : Int))).setCell ⟨w.heap.size + 1 + 1, 6, none⟩ (.slice H1 32 h1)).setCell ⟨w.heap.size + 1 + 1, 7, none⟩ (.bool stop)) = W := ⟨_, rfl⟩
    have hzs := set_log HZ4.out (.slice A1 n c1) (.slice B1 m k1) (.int .i64 room) (.bool dead) (.int .i64 arm) (.int .i64 (q : Int)) (.slice H1 32 h1) (.bool stop)
    have HZE : Hid (Blk WE (w.heap.size + 1 + 1) 26 #[.slice A1 n c1, .slice B1 m k1, .int .i64 room, .bool dead, .int .i64 arm, .int .i64 (q : Int), .slice H1 32 h1, .bool stop]) := hide (by rw [← hWE]; exact hzs)
    have HF : Hid (∀ W, (W = WE ∨ W = WE.drew) → WNo s p hash room dead arm (q : Int) stop w (.returned (.tuple #[.agg #[.slice A1 n c1, .slice B1 m k1, .int .i64 room, .bool dead, .int .i64 arm, .int .i64 (q : Int), .slice H1 32 h1, .bool stop], .int .i64 42])) W) := hide (by
      have o1 : OwB W0.heap.size WE A1 n c1 s := by rw [← hWE]; exact own8 HS4.out _ hr0 (.slice A1 n c1) (.slice B1 m k1) (.int .i64 room) (.bool dead) (.int .i64 arm) (.int .i64 (q : Int)) (.slice H1 32 h1) (.bool stop)
      have o2 : OwB W0.heap.size WE B1 m k1 p := by rw [← hWE]; exact own8 HP4.out _ hr0 (.slice A1 n c1) (.slice B1 m k1) (.int .i64 room) (.bool dead) (.int .i64 arm) (.int .i64 (q : Int)) (.slice H1 32 h1) (.bool stop)
      have o3 : OwB W0.heap.size WE H1 32 h1 hash := by rw [← hWE]; exact own8 HG4.out _ hr0 (.slice A1 n c1) (.slice B1 m k1) (.int .i64 room) (.bool dead) (.int .i64 arm) (.int .i64 (q : Int)) (.slice H1 32 h1) (.bool stop)
      have o4 : Below w.heap.size w WE := by rw [← hWE]; exact below8 HB4.out _ (by omega) (.slice A1 n c1) (.slice B1 m k1) (.int .i64 room) (.bool dead) (.int .i64 arm) (.int .i64 (q : Int)) (.slice H1 32 h1) (.bool stop)
      rintro W (rfl | rfl)
      · exact ⟨A1, n, c1, B1, m, k1, H1, h1, rfl, o1.rd, o1.le, o2.rd, o2.le, o3.rd, o3.le, o4⟩
      · exact ⟨A1, n, c1, B1, m, k1, H1, h1, rfl, Reads.drew o1.rd, o1.le, Reads.drew o2.rd, o2.le, Reads.drew o3.rd, o3.le, Below.drew o4⟩)
    clear hzs HS4 HP4 HG4 HB4
    rw [hWE]
    clear hWE i0 i1 i2 i3 i4 i5 i6 i7 j0 j1 j2 j3 j4 j5 j6 j7 m0 m1 m2 m3 m4 m5 m6 m7 n0 n1 n2 n3 n4 n5 n6 n7
    obtain ⟨⟨d0, d1, d2, d3, d4, d5, d6, d7⟩, b0, b1, b2, b3, b4, b5, b6, b7⟩ := blk8 HZE.out
    have dl := HZE.out.lt
    go_wp2
    first
      | refine bodyPost_ret (v := .tuple #[.agg #[.slice A1 n c1, .slice B1 m k1, .int .i64 room, .bool dead, .int .i64 arm, .int .i64 (q : Int), .slice H1 32 h1, .bool stop], .int .i64 42]) (by simp only [results, Tryz.results8]; go_simp) rfl (HF.out _ (.inl rfl))
      | refine bodyPost_ret (v := .tuple #[.agg #[.slice A1 n c1, .slice B1 m k1, .int .i64 room, .bool dead, .int .i64 arm, .int .i64 (q : Int), .slice H1 32 h1, .bool stop], .int .i64 42]) (by simp only [results, Tryz.results8]; go_simp) rfl (HF.out _ (.inr rfl))
end Go.Proofs.YtbbobffedgcbhaaGreatDoor
