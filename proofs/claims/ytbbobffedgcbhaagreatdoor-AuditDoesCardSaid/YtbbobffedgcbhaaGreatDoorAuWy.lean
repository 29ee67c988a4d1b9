/- audit.Write: the disk takes the entry and does not sync it. -/
import Derived.Test.YtbbobffedgcbhaaGreatDoorAuWf
namespace Go.Proofs.YtbbobffedgcbhaaGreatDoor
open Go.RowKit
set_option linter.unusedVariables false
set_option maxRecDepth 100000 in
set_option maxHeartbeats 32000000 in
theorem awrite_nosync (s p hash : LB) (room arm : Int) (dead stop : Bool) (q : Nat) (r : Rec) (a0 a1 a2 : Addr) (A : Option Addr) (n c : Nat) (B : Option Addr) (m k : Nat) (H : Option Addr) (hc : Nat) (RA : Option Addr) (rn rc : Nat) (w : World) (hI : LogIn w ⟨s, p, room, dead, arm, (q : Int), hash, stop⟩ A n c B m k H 32 hc) (hok : okL ⟨s, p, room, dead, arm, (q : Int), hash, stop⟩ = true) (hst : stop = false) (hV : validP { r with seq := (q : Int) } = true) (hD : Rd w RA rn r.dig) (ha : arm ≤ 9223372036854775807) (hE1 : Dk.apE s.length p.length room dead arm (entP hash { r with seq := (q : Int) }).length = 0) (hE2 : Dk.syE s.length (Dk.apP s.length p.length p room dead arm (entP hash { r with seq := (q : Int) })).length room (Dk.apD s.length p.length room dead arm) (Dk.apA s.length p.length room dead arm) ≠ 0) (hS : Std w) (hT : Tabs w) (hE : Sent a0 a1 a2 w) :
    Calls Tryz.prog 8 #[.agg #[Value.slice A n c, .slice B m k, .int .i64 room, .bool dead, .int .i64 arm, .int .i64 (q : Int), .slice H 32 hc, .bool stop], Rec.v r RA rn rc] w (WNo s (Dk.apP s.length p.length p room dead arm (entP hash { r with seq := (q : Int) })) hash room (Dk.apD s.length (Dk.apP s.length p.length p room dead arm (entP hash { r with seq := (q : Int) })).length room (Dk.apD s.length p.length room dead arm) (Dk.apA s.length p.length room dead arm)) (Dk.apA s.length (Dk.apP s.length p.length p room dead arm (entP hash { r with seq := (q : Int) })).length room (Dk.apD s.length p.length room dead arm) (Dk.apA s.length p.length room dead arm)) (q : Int) true w) := by
  obtain ⟨sq, op, pa, pb, g, al⟩ := r
  dsimp only at hV hD hE1 hE2
  unfold Rec.v
  dsimp only
  have XG := hide (fun W (hW : Below w.heap.size w W) => clog_any ⟨s, p, room, dead, arm, (q : Int), hash, stop⟩ A n c B m k H 32 hc W (hI.below hW))
  have XP := hide (fun W (hW : Below w.heap.size w W) => aprep_ok ⟨s, p, room, dead, arm, (q : Int), hash, stop⟩ ⟨(q : Int), op, pa, pb, g, al⟩ A n c B m k H 32 hc RA rn rc W (hI.below hW) hok hst hV (rb hD hW) (hS.below hW) (hT.below hW))
  have hes := enc_small hV
  obtain ⟨EN, hEN⟩ : ∃ x, 2 + (encP ⟨(q : Int), op, pa, pb, g, al⟩).length + 32 = x := ⟨_, rfl⟩
  obtain ⟨XB, hXB⟩ : ∃ x, entP hash ⟨(q : Int), op, pa, pb, g, al⟩ = x := ⟨_, rfl⟩
  obtain ⟨YB, hYB⟩ : ∃ x, digP hash (encP ⟨(q : Int), op, pa, pb, g, al⟩) = x := ⟨_, rfl⟩
  unfold lv Rec.v at XP
  unfold lv at XG
  dsimp only at XP XG
  rw [hEN, hXB, hYB] at XP
  rw [hXB] at hE1 hE2 ⊢
  obtain ⟨T1, hT1⟩ : ∃ T, Dk.apD s.length p.length room dead arm = T := ⟨_, rfl⟩
  obtain ⟨R1, hR1⟩ : ∃ T, Dk.apA s.length p.length room dead arm = T := ⟨_, rfl⟩
  obtain ⟨P1, hP1⟩ : ∃ T, Dk.apP s.length p.length p room dead arm XB = T := ⟨_, rfl⟩
  rw [hT1, hR1, hP1] at hE2 ⊢
  obtain ⟨T2, hT2⟩ : ∃ T, Dk.apD s.length P1.length room T1 R1 = T := ⟨_, rfl⟩
  obtain ⟨R2, hR2⟩ : ∃ T, Dk.apA s.length P1.length room T1 R1 = T := ⟨_, rfl⟩
  obtain ⟨E2, hE2'⟩ : ∃ T, Dk.syE s.length P1.length room T1 R1 = T := ⟨_, rfl⟩
  rw [hT2, hR2]
  rw [hE2'] at hE2
  have HT1 := hide hT1
  have HR1' := hide hR1
  have HP1' := hide hP1
  have HT2 := hide hT2
  have HR2' := hide hR2
  have HE1 := hide hE1
  have HE2 := hide hE2'
  have HE2n := hide hE2
  have tE2 : (E2 != 0) = true := by rw [bne_iff_ne]; exact hE2
  have HES := hide hE
  clear hT1 hR1 hP1 hT2 hR2 hE1 hE2 hE2' hE
  have HEN := hide (show EN ≤ 600 by omega)
  have hen : EN ≤ 600 := by omega
  have HST := hide hst
  clear hEN hXB hYB hes hst
  have hb3 : Below w.heap.size w (((w.alloc (.cells #[Value.slice A n c, .slice B m k, .int .i64 room, .bool dead, .int .i64 arm, .int .i64 (q : Int), .slice H 32 hc, .bool stop] 26)).alloc (.cells #[Value.int .i64 sq, .int .i64 op, .string ⟨pa.toArray⟩, .string ⟨pb.toArray⟩, .slice RA rn rc, .bool al] 28)).alloc (.cells #[Value.slice none 0 0, .slice none 0 0, .int .i64 0, .bool false, .int .i64 0, .int .i64 0, .slice none 0 0, .bool false] 26)) := ((bl_alloc w _).alloc (by simp) _).alloc (by simp; omega) _
  obtain ⟨W0, hW0⟩ : ∃ W, (((w.alloc (.cells #[Value.slice A n c, .slice B m k, .int .i64 room, .bool dead, .int .i64 arm, .int .i64 (q : Int), .slice H 32 hc, .bool stop] 26)).alloc (.cells #[Value.int .i64 sq, .int .i64 op, .string ⟨pa.toArray⟩, .string ⟨pb.toArray⟩, .slice RA rn rc, .bool al] 28)).alloc (.cells #[Value.slice none 0 0, .slice none 0 0, .int .i64 0, .bool false, .int .i64 0, .int .i64 0, .slice none 0 0, .bool false] 26)) = W := ⟨_, rfl⟩
  have HB0 : Hid (Below w.heap.size w W0) := hide (by rw [← hW0]; exact hb3)
  have HL0 : Hid (Blk W0 w.heap.size 26 #[Value.slice A n c, .slice B m k, .int .i64 room, .bool dead, .int .i64 arm, .int .i64 (q : Int), .slice H 32 hc, .bool stop]) := hide (by rw [← hW0]; exact ((Blk.new w 26 #[Value.slice A n c, .slice B m k, .int .i64 room, .bool dead, .int .i64 arm, .int .i64 (q : Int), .slice H 32 hc, .bool stop]).alloc _).alloc _)
  have HR0 : Hid (Blk W0 (w.heap.size + 1) 28 #[Value.int .i64 sq, .int .i64 op, .string ⟨pa.toArray⟩, .string ⟨pb.toArray⟩, .slice RA rn rc, .bool al]) := hide (by
    rw [← hW0]
    have h := (Blk.new (w.alloc (.cells #[Value.slice A n c, .slice B m k, .int .i64 room, .bool dead, .int .i64 arm, .int .i64 (q : Int), .slice H 32 hc, .bool stop] 26)) 28 #[Value.int .i64 sq, .int .i64 op, .string ⟨pa.toArray⟩, .string ⟨pb.toArray⟩, .slice RA rn rc, .bool al]).alloc (.cells #[Value.slice none 0 0, .slice none 0 0, .int .i64 0, .bool false, .int .i64 0, .int .i64 0, .slice none 0 0, .bool false] 26)
    simpa only [World.size_alloc] using h)
  have HZ0 : Hid (Blk W0 (w.heap.size + 2) 26 #[Value.slice none 0 0, .slice none 0 0, .int .i64 0, .bool false, .int .i64 0, .int .i64 0, .slice none 0 0, .bool false]) := hide (by
    rw [← hW0]
    have h := Blk.new ((w.alloc (.cells #[Value.slice A n c, .slice B m k, .int .i64 room, .bool dead, .int .i64 arm, .int .i64 (q : Int), .slice H 32 hc, .bool stop] 26)).alloc (.cells #[Value.int .i64 sq, .int .i64 op, .string ⟨pa.toArray⟩, .string ⟨pb.toArray⟩, .slice RA rn rc, .bool al] 28)) 26 #[Value.slice none 0 0, .slice none 0 0, .int .i64 0, .bool false, .int .i64 0, .int .i64 0, .slice none 0 0, .bool false]
    simpa only [World.size_alloc] using h)
  clear hb3
  obtain ⟨⟨x0, x1, x2, x3, x4, x5, x6, x7⟩, xz0, xz1, xz2, xz3, xz4, xz5, xz6, xz7⟩ := blk8 HL0.out
  have xl := HL0.out.lt
  go_enter Tryz.func8, Tryz.ntmps8
  go_wp2_with fail
  refine (XG.out W0 HB0.out).mono ?_
  rintro e1 w1 ⟨A1, c1, B1, k1, H1, h1, rfl, g1, g2, g3, g4⟩
  clear hW0 x0 x1 x2 x3 x4 x5 x6 x7 xz0 xz1 xz2 xz3 xz4 xz5 xz6 xz7 xl
  have hw0 : w.heap.size + 2 < W0.heap.size := HZ0.out.lt
  have hw01 := g4.size
  have HB1 := hide (below_more HB0.out (Nat.le_refl _) g4)
  have HL1 := hide (HL0.out.below g4 HL0.out.lt)
  have HR1 := hide (HR0.out.below g4 HR0.out.lt)
  have HZ1 := hide (HZ0.out.below g4 HZ0.out.lt)
  obtain ⟨W2, hW2⟩ : ∃ W, (w1.setCell ⟨w.heap.size + 1, 0, none⟩ (.int .i64 (q : Int))).alloc (.cells #[Value.slice A1 n c1, .slice B1 m k1, .int .i64 room, .bool dead, .int .i64 arm, .int .i64 (q : Int), .slice H1 32 h1, .bool stop] 26) = W := ⟨_, rfl⟩
  have hbs : Below w.heap.size w (w1.setCell ⟨w.heap.size + 1, 0, none⟩ (.int .i64 (q : Int))) := HB1.out.setCell (Nat.le_succ _) _
  have hba := bl_alloc (w1.setCell ⟨w.heap.size + 1, 0, none⟩ (.int .i64 (q : Int))) (.cells #[Value.slice A1 n c1, .slice B1 m k1, .int .i64 room, .bool dead, .int .i64 arm, .int .i64 (q : Int), .slice H1 32 h1, .bool stop] 26)
  have HB2 : Hid (Below w.heap.size w W2) := hide (by rw [← hW2]; exact below_more hbs (Nat.le_refl _) hba)
  have hl2 := (HL1.out.far (p := ⟨w.heap.size + 1, 0, none⟩) (by show w.heap.size ≠ w.heap.size + 1; omega) (.int .i64 (q : Int)))
  have hr2 : Blk (w1.setCell ⟨w.heap.size + 1, 0, none⟩ (.int .i64 (q : Int))) (w.heap.size + 1) 28 #[Value.int .i64 (q : Int), .int .i64 op, .string ⟨pa.toArray⟩, .string ⟨pb.toArray⟩, .slice RA rn rc, .bool al] := HR1.out.set_ 0 _
  have hz2 := (HZ1.out.far (p := ⟨w.heap.size + 1, 0, none⟩) (by show w.heap.size + 2 ≠ w.heap.size + 1; omega) (.int .i64 (q : Int)))
  have HL2 : Hid (Blk W2 w.heap.size 26 #[Value.slice A n c, .slice B m k, .int .i64 room, .bool dead, .int .i64 arm, .int .i64 (q : Int), .slice H 32 hc, .bool stop]) := hide (by rw [← hW2]; exact hl2.below hba hl2.lt)
  have HR2 : Hid (Blk W2 (w.heap.size + 1) 28 #[Value.int .i64 (q : Int), .int .i64 op, .string ⟨pa.toArray⟩, .string ⟨pb.toArray⟩, .slice RA rn rc, .bool al]) := hide (by rw [← hW2]; exact hr2.below hba hr2.lt)
  have HZ2 : Hid (Blk W2 (w.heap.size + 2) 26 #[Value.slice none 0 0, .slice none 0 0, .int .i64 0, .bool false, .int .i64 0, .int .i64 0, .slice none 0 0, .bool false]) := hide (by rw [← hW2]; exact hz2.below hba hz2.lt)
  have HO2 : Hid (Blk W2 w1.heap.size 26 #[Value.slice A1 n c1, .slice B1 m k1, .int .i64 room, .bool dead, .int .i64 arm, .int .i64 (q : Int), .slice H1 32 h1, .bool stop]) := hide (by
    rw [← hW2]
    have h := Blk.new (w1.setCell ⟨w.heap.size + 1, 0, none⟩ (.int .i64 (q : Int))) 26 #[Value.slice A1 n c1, .slice B1 m k1, .int .i64 room, .bool dead, .int .i64 arm, .int .i64 (q : Int), .slice H1 32 h1, .bool stop]
    simpa only [World.size_setCell] using h)
  have HS2 : Hid (OwB W0.heap.size W2 A1 n c1 s) := hide (by rw [← hW2]; exact OwB.below (own_far g1 (by show w.heap.size + 1 < W0.heap.size; omega) _) hba)
  have HG2 : Hid (OwB W0.heap.size W2 H1 32 h1 hash) := hide (by rw [← hW2]; exact OwB.below (own_far g3 (by show w.heap.size + 1 < W0.heap.size; omega) _) hba)
  have HP2 : Hid (OwB W0.heap.size W2 B1 m k1 p) := hide (by rw [← hW2]; exact OwB.below (own_far g2 (by show w.heap.size + 1 < W0.heap.size; omega) _) hba)
  obtain ⟨⟨x0, x1, x2, x3, x4, x5, x6, x7⟩, xz0, xz1, xz2, xz3, xz4, xz5, xz6, xz7⟩ := blk8 HL1.out
  have xl := HL1.out.lt
  obtain ⟨⟨y0, y1, y2, y3, y4, y5⟩, yz0, yz1, yz2, yz3, yz4, yz5⟩ := blk6 HR1.out
  have yl := HR1.out.lt
  obtain ⟨⟨v0, v1, v2, v3, v4, v5, v6, v7⟩, vz0, vz1, vz2, vz3, vz4, vz5, vz6, vz7⟩ := blk8 HL2.out
  have vl := HL2.out.lt
  obtain ⟨⟨t0, t1, t2, t3, t4, t5⟩, tz0, tz1, tz2, tz3, tz4, tz5⟩ := blk6 HR2.out
  have tl := HR2.out.lt
  clear hbs hba hl2 hr2 hz2
  go_wp2_with fail
  refine (XP.out W2 HB2.out).mono ?_
  rintro e2 w3 ⟨X, x, cx, Y, cy, rfl, u1, u2, u3, u4⟩
  clear hW2 x0 x1 x2 x3 x4 x5 x6 x7 xz0 xz1 xz2 xz3 xz4 xz5 xz6 xz7 xl y0 y1 y2 y3 y4 y5 yz0 yz1 yz2 yz3 yz4 yz5 yl v0 v1 v2 v3 v4 v5 v6 v7 vz0 vz1 vz2 vz3 vz4 vz5 vz6 vz7 vl t0 t1 t2 t3 t4 t5 tz0 tz1 tz2 tz3 tz4 tz5 tl
  have HW2S := hide HO2.out.lt
  have HB3 := hide (below_more HB2.out (Nat.le_refl _) u4)
  have HL3 := hide (HL2.out.below u4 HL2.out.lt)
  have HZ3 := hide (HZ2.out.below u4 HZ2.out.lt)
  have HO3 := hide (HO2.out.below u4 HO2.out.lt)
  have HX3 := hide u2
  have HG3 := hide (HG2.out.below u4)
  have HS3 := hide (HS2.out.below u4)
  have HP3 := hide (HP2.out.below u4)
  have HY3 := hide u3
  have HN3 := hide u1
  have u4s := u4.size
  clear u1 u2 u3 u4 HL2 HR2 HZ2 HO2 HL1 HR1 HZ1 HL0 HR0 HZ0
  obtain ⟨⟨x0, x1, x2, x3, x4, x5, x6, x7⟩, xz0, xz1, xz2, xz3, xz4, xz5, xz6, xz7⟩ := blk8 HO3.out
  have xl := HO3.out.lt
  obtain ⟨W4, hW4⟩ : ∃ W, (w3.alloc (.cells #[Value.slice A1 n c1, .slice B1 m k1, .int .i64 room, .bool dead, .int .i64 arm, .slice X x cx] 63)).alloc (.cells #[.func (.func 28) #[.pointer (some ⟨w3.heap.size, 0, none⟩)] #[], .func (.func 29) #[.pointer (some ⟨w3.heap.size, 0, none⟩)] #[]] 64) = W := ⟨_, rfl⟩
  have hb4 : Below w3.heap.size w3 W4 := by rw [← hW4]; exact (bl_alloc w3 _).alloc (by simp) _
  have HB4 := hide (below_more HB3.out (Nat.le_refl _) hb4)
  have HL4 := hide (HL3.out.below hb4 HL3.out.lt)
  have HZ4 := hide (HZ3.out.below hb4 HZ3.out.lt)
  have HO4 := hide (HO3.out.below hb4 HO3.out.lt)
  have HM4 : Hid (Blk W4 w3.heap.size 63 #[Value.slice A1 n c1, .slice B1 m k1, .int .i64 room, .bool dead, .int .i64 arm, .slice X x cx]) := hide (by rw [← hW4]; exact (Blk.new w3 63 #[Value.slice A1 n c1, .slice B1 m k1, .int .i64 room, .bool dead, .int .i64 arm, .slice X x cx]).alloc _)
  have HG4 := hide (HG3.out.below hb4)
  have hgb : ∀ b, (Value.slice H1 32 h1).ownBlock = some b → b ≠ w3.heap.size := fun b hb h => by have := (HG3.out.lt b hb).2; omega
  have HY4 := hide (HY3.out.below hb4)
  have hyb : ∀ b, (Value.slice Y 32 cy).ownBlock = some b → b ≠ w3.heap.size := fun b hb h => by have := (HY3.out.lt b hb).2; omega
  have HF4 : Hid (Blk W4 (w3.heap.size + 1) 64 #[.func (.func 28) #[.pointer (some ⟨w3.heap.size, 0, none⟩)] #[], .func (.func 29) #[.pointer (some ⟨w3.heap.size, 0, none⟩)] #[]]) := hide (by
    rw [← hW4]
    have h := Blk.new (w3.alloc (.cells #[Value.slice A1 n c1, .slice B1 m k1, .int .i64 room, .bool dead, .int .i64 arm, .slice X x cx] 63)) 64 #[.func (.func 28) #[.pointer (some ⟨w3.heap.size, 0, none⟩)] #[], .func (.func 29) #[.pointer (some ⟨w3.heap.size, 0, none⟩)] #[]]
    simpa only [World.size_alloc] using h)
  have XA := hide (add_step w3.heap.size s p XB room dead arm A1 n c1 B1 m k1 X x cx W4 HM4.out (rb HS3.out.rd hb4) (rb HP3.out.rd hb4) (rb HX3.out.rd hb4) (by have := hI.sn; omega) (by have := hI.sm; omega) (by have h1 := HN3.out; have h2 := HEN.out; omega) ha)
  unfold StepEnd at XA
  rw [HE1.out, HT1.out, HR1'.out, HP1'.out] at XA
  go_wp2_with fail
  clear hW4 x0 x1 x2 x3 x4 x5 x6 x7 xz0 xz1 xz2 xz3 xz4 xz5 xz6 xz7 xl
  obtain ⟨f0, f1, f0z, f1z⟩ := HF4.out.two
  have fl := HF4.out.lt
  refine wp_loop_rounds 3 ?_
  rw [rounds_succ]
  go_wp2_with fail
  refine XA.out.mono ?_
  rintro e3 w5 ⟨A5, n5, c5, B5, m5, k5, rfl, v1, v2, v3, v4, v5⟩
  have hgw : w.heap.size + 2 < w3.heap.size := HZ3.out.lt
  have hgo : w1.heap.size < w3.heap.size := HO3.out.lt
  have HL5 := hide (HL4.out.below v4 (by have := HL3.out.lt; exact this))
  have HZ5 := hide (HZ4.out.below v4 hgw)
  have HO5 := hide (HO4.out.below v4 hgo)
  have HF5 := hide (HF4.out.kept v5 (by omega))
  have HM5 := hide v1
  have HY5 := hide (own_kept HY4.out v5 hyb)
  have HG5 := hide (own_kept HG4.out v5 hgb)
  have hg5 : w3.heap.size < w5.heap.size := v1.lt
  have HS5 := hide v2.rd
  have HB5 := hide (Below.trans HB4.out (v4.mono (by have := HL3.out.lt; omega)))
  have hn5 : n5 ≤ 9000 := by have h1 := v2.rd.len; have h2 := hI.rs.len; have h3 := hI.sn; dsimp only at h2; omega
  have hm5 : m5 ≤ 10000 := by
    have h1 := v3.rd.len
    have h2 := hI.rp.len
    have h3 := hI.sm
    have h4 := HN3.out
    have h5 := HEN.out
    have h6 := HX3.out.rd.len
    dsimp only at h2
    have h7 : (Dk.apP s.length p.length p room dead arm XB).length ≤ p.length + XB.length := by
      unfold Dk.apP
      split
      · rw [List.length_append]; exact Nat.le_refl _
      · omega
    rw [HP1'.out] at h7
    omega
  have XS := hide (sync_step w3.heap.size s P1 room T1 R1 A5 n5 c5 B5 m5 k5 X x cx w5 v1 v2.rd v3.rd (by omega) hm5 (by rw [← HR1'.out]; exact apA_le ha))
  unfold StepEnd at XS
  rw [HE2.out, HT2.out, HR2'.out, show Dk.syS s P1 E2 = s from if_neg HE2n.out, show Dk.syP P1 E2 = P1 from if_neg HE2n.out] at XS
  clear v1 v2 v3 v4 v5 f0 f1 f0z f1z fl XA HF4 HM4 HO4 HZ4 HL4
  obtain ⟨f0, f1, f0z, f1z⟩ := HF5.out.two
  have fl := HF5.out.lt
  go_wp2_with fail
  rw [rounds_succ]
  go_wp2_with fail
  refine XS.out.mono ?_
  rintro e4 w6 ⟨A6, n6, c6, B6, m6, k6, rfl, v1, v2, v3, v4, v5⟩
  have HL6 := hide (HL5.out.below v4 (by have := HL3.out.lt; exact this))
  have HZ6 := hide (HZ5.out.below v4 hgw)
  have HO6 := hide (HO5.out.below v4 hgo)
  have HF6 := hide (HF5.out.kept v5 (by omega))
  have HM6 := hide v1
  have HY6 : Hid (w6.ownsRow W2.heap.size 5 1 (.slice Y 32 cy) 32 (bv YB)) := hide (own_kept HY5.out v5 hyb)
  have HS6 := hide v2
  have HP6 := hide v3
  have HB6 := hide (Below.trans HB5.out (v4.mono (by have := HL3.out.lt; omega)))
  have HG6 := hide (own_kept HG5.out v5 hgb)
  have hr0 : w.heap.size + 1 + 1 < W0.heap.size := hw0
  have hr5 : w.heap.size + 1 + 1 < w5.heap.size := by omega
  have ho5 : w1.heap.size < w5.heap.size := by omega
  have ho0 : W0.heap.size ≤ w1.heap.size := hw01
  clear v1 v2 v3 v4 v5 f0 f1 f0z f1z fl XS HF5 HF6 HM5 HO5 HZ5 HL5 HL6 HS5 HG4 HG5 HY5 HY6
  obtain ⟨⟨y0, y1, y2, y3, y4, y5⟩, yz0, yz1, yz2, yz3, yz4, yz5⟩ := blk6 HM6.out
  have yl := HM6.out.lt
  obtain ⟨⟨v0, v1, v2, v3, v4, v5, v6, v7⟩, vz0, vz1, vz2, vz3, vz4, vz5, vz6, vz7⟩ := blk8 HO6.out
  have vl := HO6.out.lt
  obtain ⟨WF, hWF⟩ : ∃ W, ((((((w6.setCell ⟨w1.heap.size, 0, none⟩ (.slice A6 n6 c6)).setCell ⟨w1.heap.size, 1, none⟩ (.slice B6 m6 k6)).setCell ⟨w1.heap.size, 2, none⟩ (.int .i64 room)).setCell ⟨w1.heap.size, 3, none⟩ (.bool T2)).setCell ⟨w1.heap.size, 4, none⟩ (.int .i64 R2)).setCell ⟨w1.heap.size, 7, none⟩ (.bool true)) = W := ⟨_, rfl⟩
  have HBF : Hid (Below w.heap.size w WF) := hide (by rw [← hWF]; exact below6 HB6.out w1.heap.size (by omega) (.slice A6 n6 c6) (.slice B6 m6 k6) (.int .i64 room) (.bool T2) (.int .i64 R2) (.bool true))
  have HOF : Hid (Blk WF w1.heap.size 26 #[Value.slice A6 n6 c6, .slice B6 m6 k6, .int .i64 room, .bool T2, .int .i64 R2, .int .i64 (q : Int), .slice H1 32 h1, .bool true]) := hide (by rw [← hWF]; exact fail_log HO6.out (.slice A6 n6 c6) (.slice B6 m6 k6) (.int .i64 room) (.bool T2) (.int .i64 R2) (.bool true))
  have HZF : Hid (Blk WF (w.heap.size + 1 + 1) 26 #[Value.slice none 0 0, .slice none 0 0, .int .i64 0, .bool false, .int .i64 0, .int .i64 0, .slice none 0 0, .bool false]) := hide (by rw [← hWF]; exact far6 HZ6.out (by omega) (.slice A6 n6 c6) (.slice B6 m6 k6) (.int .i64 room) (.bool T2) (.int .i64 R2) (.bool true))
  have HSF : Hid (OwB w5.heap.size WF A6 n6 c6 s) := hide (by rw [← hWF]; exact own6 HS6.out w1.heap.size ho5 (.slice A6 n6 c6) (.slice B6 m6 k6) (.int .i64 room) (.bool T2) (.int .i64 R2) (.bool true))
  have HPF : Hid (OwB w5.heap.size WF B6 m6 k6 P1) := hide (by rw [← hWF]; exact own6 HP6.out w1.heap.size ho5 (.slice A6 n6 c6) (.slice B6 m6 k6) (.int .i64 room) (.bool T2) (.int .i64 R2) (.bool true))
  have HGF : Hid (OwB W0.heap.size WF H1 32 h1 hash) := hide (by rw [← hWF]; exact own6b HG6.out HO6.out (.slice A6 n6 c6) (.slice B6 m6 k6) (.int .i64 room) (.bool T2) (.int .i64 R2) (.bool true))
  have XC := hide (fun W (hW : Below w.heap.size w W) => acode_any ⟨#[119, 114, 105, 116, 101]⟩ a0 a0 a1 a2 W (HES.out.below hW) (HES.out.below hW).hm HES.out.nm)
  have gm := (HES.out.below HBF.out).m
  have gml := World.block_lt_of_cell? WF _ gm
  clear HS6 HP6 HG6 HB6 HO6 HZ6 HM6
  obtain ⟨⟨x0, x1, x2, x3, x4, x5, x6, x7⟩, xz0, xz1, xz2, xz3, xz4, xz5, xz6, xz7⟩ := blk8 HOF.out
  have xl := HOF.out.lt
  obtain ⟨⟨t0, t1, t2, t3, t4, t5, t6, t7⟩, tz0, tz1, tz2, tz3, tz4, tz5, tz6, tz7⟩ := blk8 HZF.out
  have tl := HZF.out.lt
  go_wp2_with fail
  clear hWF y0 y1 y2 y3 y4 y5 yz0 yz1 yz2 yz3 yz4 yz5 yl v0 v1 v2 v3 v4 v5 v6 v7 vz0 vz1 vz2 vz3 vz4 vz5 vz6 vz7 vl
  go_region_law (first
    | (go_simp; go_at_call 27
       refine (XC.out WF.drew (Below.drew HBF.out)).mono ?_
       rintro e4 w7 ⟨rfl, g4⟩
       have hO4 : Blk w7 w1.heap.size 26 #[Value.slice A6 n6 c6, .slice B6 m6 k6, .int .i64 room, .bool T2, .int .i64 R2, .int .i64 (q : Int), .slice H1 32 h1, .bool true] := Blk.below (h := (show Blk WF.drew w1.heap.size 26 #[Value.slice A6 n6 c6, .slice B6 m6 k6, .int .i64 room, .bool T2, .int .i64 R2, .int .i64 (q : Int), .slice H1 32 h1, .bool true] from HOF.out)) (hb := g4) (by exact HOF.out.lt)
       have hZ4 : Blk w7 (w.heap.size + 1 + 1) 26 #[Value.slice none 0 0, .slice none 0 0, .int .i64 0, .bool false, .int .i64 0, .int .i64 0, .slice none 0 0, .bool false] := Blk.below (h := (show Blk WF.drew (w.heap.size + 1 + 1) 26 #[Value.slice none 0 0, .slice none 0 0, .int .i64 0, .bool false, .int .i64 0, .int .i64 0, .slice none 0 0, .bool false] from HZF.out)) (hb := g4) (by exact HZF.out.lt)
       have HZ4 := hide hZ4
       have HB4 : Hid (Below w.heap.size w w7) := hide ((Below.drew HBF.out).trans (g4.mono (by exact HBF.out.size)))
       have HS4 : Hid (OwB w5.heap.size w7 A6 n6 c6 s) := hide (OwB.below (w := WF.drew) HSF.out g4)
       have HP4 : Hid (OwB w5.heap.size w7 B6 m6 k6 P1) := hide (OwB.below (w := WF.drew) HPF.out g4)
       have HG4 : Hid (OwB W0.heap.size w7 H1 32 h1 hash) := hide (OwB.below (w := WF.drew) HGF.out g4)
       clear g4
       obtain ⟨⟨i0, i1, i2, i3, i4, i5, i6, i7⟩, j0, j1, j2, j3, j4, j5, j6, j7⟩ := blk8 hO4
       obtain ⟨⟨mm0, mm1, mm2, mm3, mm4, mm5, mm6, mm7⟩, nn0, nn1, nn2, nn3, nn4, nn5, nn6, nn7⟩ := blk8 hZ4
       have hol := hO4.lt
       have hzl := hZ4.lt
       clear hO4 hZ4))
  all_goals
    clear x0 x1 x2 x3 x4 x5 x6 x7 xz0 xz1 xz2 xz3 xz4 xz5 xz6 xz7 xl gm gml t0 t1 t2 t3 t4 t5 t6 t7 tz0 tz1 tz2 tz3 tz4 tz5 tz6 tz7 tl
    obtain ⟨WE, hWE⟩ : ∃ W, ((((((((w7.setCell ⟨w.heap.size + 1 + 1, 0, none⟩ (.slice A6 n6 c6)).setCell ⟨w.heap.size + 1 + 1, 1, none⟩ (.slice B6 m6 k6)).setCell ⟨w.heap.size + 1 + 1, 2, none⟩ (.int .i64 room)).setCell ⟨w.heap.size + 1 + 1, 3, none⟩ (.bool T2)).setCell ⟨w.heap.size + 1 + 1, 4, none⟩ (.int .i64 R2)).setCell ⟨w.heap.size + 1 + 1, 5, none⟩ (.int .i64 (q : Int))).setCell ⟨w.heap.size + 1 + 1, 6, none⟩ (.slice H1 32 h1)).setCell ⟨w.heap.size + 1 + 1, 7, none⟩ (.bool true)) = W := ⟨_, rfl⟩
    have hzs := set_log HZ4.out (.slice A6 n6 c6) (.slice B6 m6 k6) (.int .i64 room) (.bool T2) (.int .i64 R2) (.int .i64 (q : Int)) (.slice H1 32 h1) (.bool true)
    have HZE : Hid (Blk WE (w.heap.size + 1 + 1) 26 #[.slice A6 n6 c6, .slice B6 m6 k6, .int .i64 room, .bool T2, .int .i64 R2, .int .i64 (q : Int), .slice H1 32 h1, .bool true]) := hide (by rw [← hWE]; exact hzs)
    have HF : Hid (∀ W, (W = WE ∨ W = WE.drew) → WNo s P1 hash room T2 R2 (q : Int) true w (.returned (.tuple #[.agg #[.slice A6 n6 c6, .slice B6 m6 k6, .int .i64 room, .bool T2, .int .i64 R2, .int .i64 (q : Int), .slice H1 32 h1, .bool true], .int .i64 42])) W) := hide (by
      have o1 : OwB w5.heap.size WE A6 n6 c6 s := by rw [← hWE]; exact own8 HS4.out _ hr5 (.slice A6 n6 c6) (.slice B6 m6 k6) (.int .i64 room) (.bool T2) (.int .i64 R2) (.int .i64 (q : Int)) (.slice H1 32 h1) (.bool true)
      have o2 : OwB w5.heap.size WE B6 m6 k6 P1 := by rw [← hWE]; exact own8 HP4.out _ hr5 (.slice A6 n6 c6) (.slice B6 m6 k6) (.int .i64 room) (.bool T2) (.int .i64 R2) (.int .i64 (q : Int)) (.slice H1 32 h1) (.bool true)
      have o3 : OwB W0.heap.size WE H1 32 h1 hash := by rw [← hWE]; exact own8 HG4.out _ hr0 (.slice A6 n6 c6) (.slice B6 m6 k6) (.int .i64 room) (.bool T2) (.int .i64 R2) (.int .i64 (q : Int)) (.slice H1 32 h1) (.bool true)
      have o4 : Below w.heap.size w WE := by rw [← hWE]; exact below8 HB4.out _ (by omega) (.slice A6 n6 c6) (.slice B6 m6 k6) (.int .i64 room) (.bool T2) (.int .i64 R2) (.int .i64 (q : Int)) (.slice H1 32 h1) (.bool true)
      rintro W (rfl | rfl)
      · exact ⟨A6, n6, c6, B6, m6, k6, H1, h1, rfl, o1.rd, o1.le, o2.rd, o2.le, o3.rd, o3.le, o4⟩
      · exact ⟨A6, n6, c6, B6, m6, k6, H1, h1, rfl, Reads.drew o1.rd, o1.le, Reads.drew o2.rd, o2.le, Reads.drew o3.rd, o3.le, Below.drew o4⟩)
    clear hzs HS4 HP4 HG4 HB4
    rw [hWE]
    clear hWE i0 i1 i2 i3 i4 i5 i6 i7 j0 j1 j2 j3 j4 j5 j6 j7 mm0 mm1 mm2 mm3 mm4 mm5 mm6 mm7 nn0 nn1 nn2 nn3 nn4 nn5 nn6 nn7
    obtain ⟨⟨d0, d1, d2, d3, d4, d5, d6, d7⟩, b0, b1, b2, b3, b4, b5, b6, b7⟩ := blk8 HZE.out
    have dl := HZE.out.lt
    go_wp2
    first
      | refine bodyPost_ret (v := .tuple #[.agg #[.slice A6 n6 c6, .slice B6 m6 k6, .int .i64 room, .bool T2, .int .i64 R2, .int .i64 (q : Int), .slice H1 32 h1, .bool true], .int .i64 42]) (by simp only [results, Tryz.results8]; go_simp) rfl (HF.out _ (.inl rfl))
      | refine bodyPost_ret (v := .tuple #[.agg #[.slice A6 n6 c6, .slice B6 m6 k6, .int .i64 room, .bool T2, .int .i64 R2, .int .i64 (q : Int), .slice H1 32 h1, .bool true], .int .i64 42]) (by simp only [results, Tryz.results8]; go_simp) rfl (HF.out _ (.inr rfl))
end Go.Proofs.YtbbobffedgcbhaaGreatDoor
