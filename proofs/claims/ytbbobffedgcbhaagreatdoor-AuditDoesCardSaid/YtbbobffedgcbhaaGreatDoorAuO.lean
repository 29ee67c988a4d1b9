/- audit.Open at a disk that may be opened. -/
import Derived.Test.YtbbobffedgcbhaaGreatDoorAuB
namespace Go.Proofs.YtbbobffedgcbhaaGreatDoor
open Go.RowKit
set_option linter.unusedVariables false
abbrev zlog : Array Value := #[.slice none 0 0, .slice none 0 0, .int .i64 0, .bool false, .int .i64 0, .int .i64 0, .slice none 0 0, .bool false]
set_option maxHeartbeats 2000000 in
theorem rd_log {w : World} {b : Nat} {A : Option Addr} {n : Nat} {bs : LB} (h : Rd w A n bs) (hb : Blk w b 26 #[.slice none 0 0, .slice none 0 0, .int .i64 0, .bool false, .int .i64 0, .int .i64 0, .slice none 0 0, .bool false]) (v0 v1 v2 v3 v4 v5 v6 v7 : Value) :
    Rd ((((((((w.setCell ⟨b, 0, none⟩ v0).setCell ⟨b, 1, none⟩ v1).setCell ⟨b, 2, none⟩ v2).setCell ⟨b, 3, none⟩ v3).setCell ⟨b, 4, none⟩ v4).setCell ⟨b, 5, none⟩ v5).setCell ⟨b, 6, none⟩ v6).setCell ⟨b, 7, none⟩ v7) A n bs := by
  have k1 : Blk _ b 26 #[v0, .slice none 0 0, .int .i64 0, .bool false, .int .i64 0, .int .i64 0, .slice none 0 0, .bool false] := hb.set_ 0 v0
  have k2 : Blk _ b 26 #[v0, v1, .int .i64 0, .bool false, .int .i64 0, .int .i64 0, .slice none 0 0, .bool false] := k1.set_ 1 v1
  have k3 : Blk _ b 26 #[v0, v1, v2, .bool false, .int .i64 0, .int .i64 0, .slice none 0 0, .bool false] := k2.set_ 2 v2
  have k4 : Blk _ b 26 #[v0, v1, v2, v3, .int .i64 0, .int .i64 0, .slice none 0 0, .bool false] := k3.set_ 3 v3
  have k5 : Blk _ b 26 #[v0, v1, v2, v3, v4, .int .i64 0, .slice none 0 0, .bool false] := k4.set_ 4 v4
  have k6 : Blk _ b 26 #[v0, v1, v2, v3, v4, v5, .slice none 0 0, .bool false] := k5.set_ 5 v5
  have k7 : Blk _ b 26 #[v0, v1, v2, v3, v4, v5, v6, .bool false] := k6.set_ 6 v6
  have r0 := Reads.set1 h (show _ = some (Value.slice none 0 0) from hb.cell 0) (fun z => by simp) v0
  have r1 := Reads.set1 r0 (show _ = some (Value.slice none 0 0) from k1.cell 1) (fun z => by simp) v1
  have r2 := Reads.set1 r1 (show _ = some (Value.int .i64 0) from k2.cell 2) (fun z => by simp) v2
  have r3 := Reads.set1 r2 (show _ = some (Value.bool false) from k3.cell 3) (fun z => by simp) v3
  have r4 := Reads.set1 r3 (show _ = some (Value.int .i64 0) from k4.cell 4) (fun z => by simp) v4
  have r5 := Reads.set1 r4 (show _ = some (Value.int .i64 0) from k5.cell 5) (fun z => by simp) v5
  have r6 := Reads.set1 r5 (show _ = some (Value.slice none 0 0) from k6.cell 6) (fun z => by simp) v6
  have r7 := Reads.set1 r6 (show _ = some (Value.bool false) from k7.cell 7) (fun z => by simp) v7
  exact r7.more (by simp)
set_option maxHeartbeats 2000000 in
theorem set_log {w : World} {b : Nat} (hb : Blk w b 26 #[.slice none 0 0, .slice none 0 0, .int .i64 0, .bool false, .int .i64 0, .int .i64 0, .slice none 0 0, .bool false]) (v0 v1 v2 v3 v4 v5 v6 v7 : Value) :
    Blk ((((((((w.setCell ⟨b, 0, none⟩ v0).setCell ⟨b, 1, none⟩ v1).setCell ⟨b, 2, none⟩ v2).setCell ⟨b, 3, none⟩ v3).setCell ⟨b, 4, none⟩ v4).setCell ⟨b, 5, none⟩ v5).setCell ⟨b, 6, none⟩ v6).setCell ⟨b, 7, none⟩ v7) b 26 #[v0, v1, v2, v3, v4, v5, v6, v7] := by
  have k1 : Blk _ b 26 #[v0, .slice none 0 0, .int .i64 0, .bool false, .int .i64 0, .int .i64 0, .slice none 0 0, .bool false] := hb.set_ 0 v0
  have k2 : Blk _ b 26 #[v0, v1, .int .i64 0, .bool false, .int .i64 0, .int .i64 0, .slice none 0 0, .bool false] := k1.set_ 1 v1
  have k3 : Blk _ b 26 #[v0, v1, v2, .bool false, .int .i64 0, .int .i64 0, .slice none 0 0, .bool false] := k2.set_ 2 v2
  have k4 : Blk _ b 26 #[v0, v1, v2, v3, .int .i64 0, .int .i64 0, .slice none 0 0, .bool false] := k3.set_ 3 v3
  have k5 : Blk _ b 26 #[v0, v1, v2, v3, v4, .int .i64 0, .slice none 0 0, .bool false] := k4.set_ 4 v4
  have k6 : Blk _ b 26 #[v0, v1, v2, v3, v4, v5, .slice none 0 0, .bool false] := k5.set_ 5 v5
  have k7 : Blk _ b 26 #[v0, v1, v2, v3, v4, v5, v6, .bool false] := k6.set_ 6 v6
  have k8 : Blk _ b 26 #[v0, v1, v2, v3, v4, v5, v6, v7] := k7.set_ 7 v7
  exact k8
theorem row_log {w : World} {b B : Nat} {A : Option Addr} {n c : Nat} {l : List RV} (h : OutR B w A n c l) (hb : Blk w b 26 #[.slice none 0 0, .slice none 0 0, .int .i64 0, .bool false, .int .i64 0, .int .i64 0, .slice none 0 0, .bool false]) (v0 v1 v2 v3 v4 v5 v6 v7 : Value) :
    OutR B ((((((((w.setCell ⟨b, 0, none⟩ v0).setCell ⟨b, 1, none⟩ v1).setCell ⟨b, 2, none⟩ v2).setCell ⟨b, 3, none⟩ v3).setCell ⟨b, 4, none⟩ v4).setCell ⟨b, 5, none⟩ v5).setCell ⟨b, 6, none⟩ v6).setCell ⟨b, 7, none⟩ v7) A n c l := by
  refine ⟨?_, fun x hx => ⟨rd_log (h.2.1 x hx).1 hb _ _ _ _ _ _ _ _, (h.2.1 x hx).2⟩, h.2.2⟩
  have ne : 28 ≠ 26 := by decide
  have k1 := hb.set_ 0 v0
  have k2 := k1.set_ 1 v1
  have k3 := k2.set_ 2 v2
  have k4 := k3.set_ 3 v3
  have k5 := k4.set_ 4 v4
  have k6 := k5.set_ 5 v5
  have k7 := k6.set_ 6 v6
  have o0 := own_set_blk h.1 (p := ⟨b, 0, none⟩) hb ne v0
  have o1 := own_set_blk o0 (p := ⟨b, 1, none⟩) k1 ne v1
  have o2 := own_set_blk o1 (p := ⟨b, 2, none⟩) k2 ne v2
  have o3 := own_set_blk o2 (p := ⟨b, 3, none⟩) k3 ne v3
  have o4 := own_set_blk o3 (p := ⟨b, 4, none⟩) k4 ne v4
  have o5 := own_set_blk o4 (p := ⟨b, 5, none⟩) k5 ne v5
  have o6 := own_set_blk o5 (p := ⟨b, 6, none⟩) k6 ne v6
  have o7 := own_set_blk o6 (p := ⟨b, 7, none⟩) k7 ne v7
  exact o7
def opP (s : LB) (room arm : Int) : Lg := ⟨s.take (scanB s).2.2, [], room, false, arm, ((scanB s).1.length : Int), (scanB s).2.1, false⟩
def OpenEnd (s : LB) (room arm : Int) (w : World) (e : Ending) (w' : World) : Prop := ∃ A n c B m k H hc O co l, e = .returned (.tuple #[lv (opP s room arm) A n c B m k H 32 hc, .slice O l.length co, .int .i64 0]) ∧ LogIn w' (opP s room arm) A n c B m k H 32 hc ∧ OutR w.heap.size w' O l.length co l ∧ l.map RV.r = (scanB s).1 ∧ Below w.heap.size w w'
theorem Below.back {w w' : World} {B C : Nat} (h : Below B w w') (hC : C ≤ B) : Below C w w' := h.mono hC
set_option maxRecDepth 100000 in
set_option maxHeartbeats 16000000 in
theorem aopen_ok (s p : LB) (room arm : Int) (A : Option Addr) (n c : Nat) (B : Option Addr) (m k : Nat) (w : World) (rs : Rd w A n s) (ls : n ≤ c) (rp : Rd w B m p) (lp : m ≤ k) (hm : p = []) (sn : n ≤ 9000) (hok : Dk.okD n m room arm = true) (hS : Std w) (hT : Tabs w) :
    Calls Tryz.prog 6 #[.agg #[.slice A n c, .slice B m k, .int .i64 room, .bool false, .int .i64 arm]] w (OpenEnd s room arm w) := by
  have hls : s.length = n := rs.len
  have hlp : p.length = m := rp.len
  have hm0 : m = 0 := by rw [← hlp, hm]; rfl
  have hEn := scanB_end s
  have hlast := scanB_last s
  have XC := hide (fun W => Dk.check_any A n c B m k room false arm W (by omega) (by omega))
  have XS := hide (fun W (hW : Below w.heap.size w W) => scan_any A n c s W (rb rs hW) ls (by omega) (hS.below hW) (hT.below hW))
  have XU := hide (fun W (hW : Below w.heap.size w W) => Dk.cut_any A c B k room false arm ((scanB s).2.2 : Int) s p W (by rw [hls]; exact rb rs hW) (by rw [hlp]; exact rb rp hW) (by omega) (by omega) (by omega))
  rw [hok] at XC
  have hce : Dk.ctE s.length p.length room false arm ((scanB s).2.2 : Int) = 0 := by
    unfold Dk.ctE
    rw [if_pos ⟨by rw [hls, hlp]; exact hok, by omega, rfl, by omega, by omega⟩]
  rw [hce] at XU
  have hcs : Dk.ctS s 0 ((scanB s).2.2 : Int) = s.take (scanB s).2.2 := by
    unfold Dk.ctS
    rw [if_pos rfl, Int.toNat_natCast]
  rw [hcs] at XU
  have hop : opP s room arm = ⟨s.take (scanB s).2.2, [], room, false, arm, ((scanB s).1.length : Int), (scanB s).2.1, false⟩ := rfl
  obtain ⟨OPL, hOPL⟩ : ∃ o, opP s room arm = o := ⟨_, rfl⟩
  rw [hOPL] at hop
  have HOPL := hide hOPL
  unfold Dk.DEnd at XU
  unfold ScanEnd at XS
  rw [hls, hlp] at XU
  rw [hls] at hEn
  obtain ⟨E, hE⟩ : ∃ E, (scanB s).2.2 = E := ⟨_, rfl⟩
  obtain ⟨Dg, hDg⟩ : ∃ D, (scanB s).2.1 = D := ⟨_, rfl⟩
  obtain ⟨P, hP⟩ : ∃ P, (scanB s).1 = P := ⟨_, rfl⟩
  rw [hE, hDg, hP] at XS hop
  rw [hE] at XU hEn
  rw [hDg] at hlast
  have HEND : Hid (∀ A n c B m k H hc O co (l : List RV) W, LogIn W OPL A n c B m k H 32 hc → OutR w.heap.size W O l.length co l → l.map RV.r = P → Below w.heap.size w W → OpenEnd s room arm w (.returned (.tuple #[.agg #[.slice A n c, .slice B m k, .int .i64 room, .bool false, .int .i64 arm, .int .i64 (P.length : Int), .slice H 32 hc, .bool false], .slice O l.length co, .int .i64 0])) W) := hide (fun A n c B m k H hc O co l W h1 h2 h4 h5 => by
    refine ⟨A, n, c, B, m, k, H, hc, O, co, l, ?_, by rw [hOPL]; exact h1, h2, by rw [hP]; exact h4, h5⟩
    rw [hOPL, hop])
  generalize OpenEnd s room arm w = POST at *
  have HOP := hide hop
  have HLA := hide hlast
  have HLS := hide hls
  have HPN := hide hm
  subst hm0
  have hb := bl_alloc w (.cells #[.slice A n c, .slice B 0 k, .int .i64 room, .bool false, .int .i64 arm] 24)
  have hb2 : Below w.heap.size w ((w.alloc (.cells #[.slice A n c, .slice B 0 k, .int .i64 room, .bool false, .int .i64 arm] 24)).alloc (.cells #[.slice none 0 0, .slice none 0 0, .int .i64 0, .bool false, .int .i64 0, .int .i64 0, .slice none 0 0, .bool false] 26)) := hb.alloc (by simp) _
  have hk1 : Blk ((w.alloc (.cells #[.slice A n c, .slice B 0 k, .int .i64 room, .bool false, .int .i64 arm] 24)).alloc (.cells #[.slice none 0 0, .slice none 0 0, .int .i64 0, .bool false, .int .i64 0, .int .i64 0, .slice none 0 0, .bool false] 26)) w.heap.size 24 #[.slice A n c, .slice B 0 k, .int .i64 room, .bool false, .int .i64 arm] := (Blk.new w 24 _).below (bl_alloc _ _) (by simp)
  have hk2 : Blk ((w.alloc (.cells #[.slice A n c, .slice B 0 k, .int .i64 room, .bool false, .int .i64 arm] 24)).alloc (.cells #[.slice none 0 0, .slice none 0 0, .int .i64 0, .bool false, .int .i64 0, .int .i64 0, .slice none 0 0, .bool false] 26)) (w.heap.size + 1) 26 #[.slice none 0 0, .slice none 0 0, .int .i64 0, .bool false, .int .i64 0, .int .i64 0, .slice none 0 0, .bool false] := by
    have h := Blk.new (w.alloc (.cells #[.slice A n c, .slice B 0 k, .int .i64 room, .bool false, .int .i64 arm] 24)) 26 #[.slice none 0 0, .slice none 0 0, .int .i64 0, .bool false, .int .i64 0, .int .i64 0, .slice none 0 0, .bool false]
    simpa using h
  have HB := hide hb2
  have HK := hide hk1
  have HZ := hide hk2
  clear hb hb2 hk1 hk2 hls hlp hm hlast hce hcs hop hE hDg hP rs rp hok hS hT hOPL
  unfold Dk.dv at *
  go_enter Tryz.func6, Tryz.ntmps6
  go_wp2_with fail
  refine (XC.out _).mono ?_
  rintro e1 w1 ⟨rfl, hw1⟩
  unfold Dk.dC at hw1
  have hbw : Below ((w.alloc (.cells #[.slice A n c, .slice B 0 k, .int .i64 room, .bool false, .int .i64 arm] 24)).alloc (.cells #[.slice none 0 0, .slice none 0 0, .int .i64 0, .bool false, .int .i64 0, .int .i64 0, .slice none 0 0, .bool false] 26)).heap.size ((w.alloc (.cells #[.slice A n c, .slice B 0 k, .int .i64 room, .bool false, .int .i64 arm] 24)).alloc (.cells #[.slice none 0 0, .slice none 0 0, .int .i64 0, .bool false, .int .i64 0, .int .i64 0, .slice none 0 0, .bool false] 26)) w1 := by rw [← hw1]; exact bl_alloc _ _
  have HB1 := hide (below_more HB.out (Nat.le_refl _) hbw)
  have HK1 := hide (HK.out.below hbw HK.out.lt)
  have HZ1 := hide (HZ.out.below hbw HZ.out.lt)
  clear hw1 hbw XC HB HK HZ
  obtain ⟨⟨x0, x1, x2, x3, x4⟩, _⟩ := HK1.out.five
  have xl := HK1.out.lt
  have XS1 := hide (XS.out w1 HB1.out)
  clear XS
  go_wp2_with fail
  refine XS1.out.mono ?_
  rintro e2 w2 ⟨O, co, D, dn, l, rfl, g1, g2, g3, g4⟩
  have hpl : P.length = l.length := by rw [← g2, List.length_map]
  rw [hpl] at HEND HOP
  have HB2 := hide (below_more HB1.out (Nat.le_refl _) g4)
  have HO2 := hide g1
  have HM2 := hide g2
  have HD2 := hide g3.rd
  have HDC := hide g3.le
  have hk2 := HK1.out.below g4 HK1.out.lt
  have hz2 := HZ1.out.below g4 HZ1.out.lt
  have HZ2 := hide hz2
  have HK2 := hide hk2
  have XU2 := hide (XU.out w2 HB2.out)
  obtain ⟨q, hq⟩ : ∃ q, l.length = q := ⟨_, rfl⟩
  have HQ := hide hq
  rw [hq] at HO2 HOP ⊢
  clear x0 x1 x2 x3 x4 xl g1 g2 g3 g4 hk2 hz2 hpl hq HK1 HZ1 XS1 XU
  obtain ⟨⟨x0, x1, x2, x3, x4⟩, _⟩ := HK2.out.five
  have xl := HK2.out.lt
  go_wp2_with fail
  refine XU2.out.mono ?_
  rintro e3 w3 ⟨A4, n4, c4, B4, m4, k4, rfl, u1, u2, u3⟩
  have HB3 := hide (below_more HB2.out (Nat.le_refl _) u3)
  have HO3 := hide (OutR.below HO2.out u3)
  have HD3 := hide (rb HD2.out u3)
  have HZ3 := hide (HZ2.out.below u3 HZ2.out.lt)
  have HS3 := hide (Dk.Rc.rd u1)
  have hn4 : n4 ≤ 9000 := by have h1 := (Dk.Rc.rd u1).len; rw [List.length_take] at h1; have h2 := HLS.out; omega
  have hm4 : Hid (m4 = 0) := hide (by have h1 := (Dk.Rc.rd u2).len; have h2 := HPN.out; rw [h2] at h1; simpa using h1.symm)
  have HP3 := hide (Dk.Rc.rd u2)
  have HSC := hide (Dk.Rc.caps u1).1
  have HPC := hide (Dk.Rc.caps u2).1
  clear u1 u2 u3 XU2 HO2 HD2 HZ2 HK2 x0 x1 x2 x3 x4 xl HB2
  obtain ⟨u0, u1, u2, u3, u4, u5, u6, u7⟩ := HZ3.out.eight
  have uz0 := HZ3.out.frozen 0
  have uz1 := HZ3.out.frozen 1
  have uz2 := HZ3.out.frozen 2
  have uz3 := HZ3.out.frozen 3
  have uz4 := HZ3.out.frozen 4
  have uz5 := HZ3.out.frozen 5
  have uz6 := HZ3.out.frozen 6
  have uz7 := HZ3.out.frozen 7
  have ul := HZ3.out.lt
  obtain ⟨WE, hWE⟩ : ∃ W, (((((((((w3.setCell ⟨w.heap.size + 1, 0, none⟩ (.slice A4 n4 c4)).setCell ⟨w.heap.size + 1, 1, none⟩ (.slice B4 m4 k4)).setCell ⟨w.heap.size + 1, 2, none⟩ (.int .i64 room)).setCell ⟨w.heap.size + 1, 3, none⟩ (.bool false)).setCell ⟨w.heap.size + 1, 4, none⟩ (.int .i64 arm)).setCell ⟨w.heap.size + 1, 5, none⟩ (.int .i64 (q : Int))).setCell ⟨w.heap.size + 1, 6, none⟩ (.slice D 32 dn)).setCell ⟨w.heap.size + 1, 7, none⟩ (.bool false))).alloc (.cells #[.slice A4 n4 c4, .slice B4 m4 k4, .int .i64 room, .bool false, .int .i64 arm] 24) = W := ⟨_, rfl⟩
  have hBE0 : Below w.heap.size w (((((((((w3.setCell ⟨w.heap.size + 1, 0, none⟩ (.slice A4 n4 c4)).setCell ⟨w.heap.size + 1, 1, none⟩ (.slice B4 m4 k4)).setCell ⟨w.heap.size + 1, 2, none⟩ (.int .i64 room)).setCell ⟨w.heap.size + 1, 3, none⟩ (.bool false)).setCell ⟨w.heap.size + 1, 4, none⟩ (.int .i64 arm)).setCell ⟨w.heap.size + 1, 5, none⟩ (.int .i64 (q : Int))).setCell ⟨w.heap.size + 1, 6, none⟩ (.slice D 32 dn)).setCell ⟨w.heap.size + 1, 7, none⟩ (.bool false))) := ((((((((HB3.out.setCell (by exact Nat.le_succ _) _).setCell (by exact Nat.le_succ _) _).setCell (by exact Nat.le_succ _) _).setCell (by exact Nat.le_succ _) _).setCell (by exact Nat.le_succ _) _).setCell (by exact Nat.le_succ _) _).setCell (by exact Nat.le_succ _) _).setCell (by exact Nat.le_succ _) _)
  have hxa := bl_alloc (((((((((w3.setCell ⟨w.heap.size + 1, 0, none⟩ (.slice A4 n4 c4)).setCell ⟨w.heap.size + 1, 1, none⟩ (.slice B4 m4 k4)).setCell ⟨w.heap.size + 1, 2, none⟩ (.int .i64 room)).setCell ⟨w.heap.size + 1, 3, none⟩ (.bool false)).setCell ⟨w.heap.size + 1, 4, none⟩ (.int .i64 arm)).setCell ⟨w.heap.size + 1, 5, none⟩ (.int .i64 (q : Int))).setCell ⟨w.heap.size + 1, 6, none⟩ (.slice D 32 dn)).setCell ⟨w.heap.size + 1, 7, none⟩ (.bool false))) (.cells #[.slice A4 n4 c4, .slice B4 m4 k4, .int .i64 room, .bool false, .int .i64 arm] 24)
  have hzs := set_log HZ3.out (.slice A4 n4 c4) (.slice B4 m4 k4) (.int .i64 room) (.bool false) (.int .i64 arm) (.int .i64 (q : Int)) (.slice D 32 dn) (.bool false)
  have HBE : Hid (Below w.heap.size w WE) := hide (by rw [← hWE]; exact below_more hBE0 (Nat.le_refl _) hxa)
  have HSE : Hid (Rd WE A4 n4 (s.take E)) := hide (by rw [← hWE]; exact rb (rd_log HS3.out HZ3.out (.slice A4 n4 c4) (.slice B4 m4 k4) (.int .i64 room) (.bool false) (.int .i64 arm) (.int .i64 (q : Int)) (.slice D 32 dn) (.bool false)) hxa)
  have HPE : Hid (Rd WE B4 m4 p) := hide (by rw [← hWE]; exact rb (rd_log HP3.out HZ3.out (.slice A4 n4 c4) (.slice B4 m4 k4) (.int .i64 room) (.bool false) (.int .i64 arm) (.int .i64 (q : Int)) (.slice D 32 dn) (.bool false)) hxa)
  have HDE : Hid (Rd WE D 32 Dg) := hide (by rw [← hWE]; exact rb (rd_log HD3.out HZ3.out (.slice A4 n4 c4) (.slice B4 m4 k4) (.int .i64 room) (.bool false) (.int .i64 arm) (.int .i64 (q : Int)) (.slice D 32 dn) (.bool false)) hxa)
  have HOE : Hid (OutR w.heap.size WE O q co l) := hide (by rw [← hWE]; exact (OutR.below (row_log HO3.out HZ3.out (.slice A4 n4 c4) (.slice B4 m4 k4) (.int .i64 room) (.bool false) (.int .i64 arm) (.int .i64 (q : Int)) (.slice D 32 dn) (.bool false)) hxa).more HB1.out.size)
  have HZE : Hid (Blk WE (w.heap.size + 1) 26 #[.slice A4 n4 c4, .slice B4 m4 k4, .int .i64 room, .bool false, .int .i64 arm, .int .i64 (q : Int), .slice D 32 dn, .bool false]) := hide (by rw [← hWE]; exact hzs.below hxa hzs.lt)
  have HF : Hid (POST (.returned (.tuple #[.agg #[.slice A4 n4 c4, .slice B4 m4 k4, .int .i64 room, .bool false, .int .i64 arm, .int .i64 (q : Int), .slice D 32 dn, .bool false], .slice O q co, .int .i64 0])) WE) := hide (by
    have h := HEND.out A4 n4 c4 B4 m4 k4 D dn O co l WE ?_ (by rw [HQ.out]; exact HOE.out) HM2.out HBE.out
    · rw [HQ.out] at h; exact h
    · rw [HOP.out]
      exact ⟨HSE.out, HSC.out, by have h := HPE.out; rw [HPN.out] at h; exact h, HPC.out, HDE.out, HDC.out, hn4, by have := hm4.out; omega, by omega⟩)
  clear HBE HSE HPE HDE HOE HEND HOP HS3 HP3 HD3 HO3 HB3 hBE0 hxa hzs
  go_wp2_with fail
  clear hWE u0 u1 u2 u3 u4 u5 u6 u7 uz0 uz1 uz2 uz3 uz4 uz5 uz6 uz7
  obtain ⟨y0, y1, y2, y3, y4, y5, y6, y7⟩ := HZE.out.eight
  have yz0 := HZE.out.frozen 0
  have yz1 := HZE.out.frozen 1
  have yz2 := HZE.out.frozen 2
  have yz3 := HZE.out.frozen 3
  have yz4 := HZE.out.frozen 4
  have yz5 := HZE.out.frozen 5
  have yz6 := HZE.out.frozen 6
  have yz7 := HZE.out.frozen 7
  have yl := HZE.out.lt
  refine bodyPost_ret (v := .tuple #[.agg #[.slice A4 n4 c4, .slice B4 m4 k4, .int .i64 room, .bool false, .int .i64 arm, .int .i64 (q : Int), .slice D 32 dn, .bool false], .slice O q co, .int .i64 0]) (by simp only [results, Tryz.results6]; go_simp) rfl HF.out
end Go.Proofs.YtbbobffedgcbhaaGreatDoor
