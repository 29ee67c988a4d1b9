/- DiskDoes: the walk. -/
import Derived.Test.YthoaocjeladbkaaRefC
import Derived.Test.YthoaocjeladbkaaLawK
import Derived.Test.YthoaocjeladbkaaFresh
import Derived.Test.YthoaocjeladbkaaDoesC
import Derived.Deep.DeepCutAuto
namespace Go.Proofs.Ythoaocjeladbkaa
open Go.RowKit
set_option linter.unusedVariables false

theorem Rz.set5 {B : Nat} {w : World} {A : Option Addr} {n k : Nat} {bs : List UInt8} (h : Rz B w A n k bs) {g : Nat} {x y z u v : Value} (hg : Blk w g 24 #[x, y, z, u, v]) (a b c d e : Value) : Rz B (Go.Proofs.Ythoaocjeladbkaa.set5 w g a b c d e) A n k bs := h.imp id fun h => Rc.set5 (B := B) h hg a b c d e

set_option maxRecDepth 10000 in
set_option maxHeartbeats 40000000 in
theorem does_law (A : Option Addr) (n c : Nat) (B : Option Addr) (m k : Nat) (room : Int) (dead : Bool) (arm : Int) (s p : List UInt8) (Db : Option Addr) (l kb : Nat) (b : List UInt8) (q : Int) (w : World) (hs : Rd w A n s) (hp : Rd w B m p) (hc : n ≤ c) (hcc : c ≤ maxLen) (hk : m ≤ k) (hkk : k ≤ maxLen) (ha : arm ≤ 9223372036854775807)
    (hb : Rd w Db l b) (hbl : l ≤ kb) (hbb : kb ≤ maxLen) :
    Calls Try.prog 3 #[dv A n c B m k room dead arm, .slice Db l kb, .int .i64 q] w fun e w' => e = .returned (.bool true) ∧ Below w.heap.size w w' := by
  have l1 := hs.len; have l2 := hp.len; have l3 := hb.len
  subst l1; subst l2; subst l3
  go_enter Try.func3, Try.ntmps3
  go_wp2_with fail
  refine (small_any A _ c B _ k room dead arm _ (by omega) (by omega)).mono ?_
  rintro e w1 ⟨rfl, rfl⟩
  cases hsm : smD s.length p.length
  · clear hsm
    go_wp2_with fail
    refine (heads_any _).mono ?_
    rintro e w2 ⟨rfl, k2⟩
    have K2 := hide k2
    clear k2
    go_wp2
    go_ret
    exact ⟨rfl, below_more (((Below.refl w.heap.size w).alloc (Nat.le_refl _) _).alloc (by simp) _) (Nat.le_refl _) K2.out⟩
  have hb' : s.length ≤ 2000 ∧ p.length ≤ 2000 := by unfold smD at hsm; exact of_decide_eq_true hsm
  obtain ⟨b1, b2⟩ := hb'
  clear hsm
  by_cases b3 : 2000 < b.length
  · go_wp2_with fail
    refine (heads_any _).mono ?_
    rintro e w2 ⟨rfl, k2⟩
    have K2 := hide k2
    clear k2
    go_wp2
    go_ret
    exact ⟨rfl, below_more (((Below.refl w.heap.size w).alloc (Nat.le_refl _) _).alloc (by simp) _) (Nat.le_refl _) K2.out⟩
  go_upto_region 3 with (fail)
  generalize hW1 : (w.alloc (dC A s.length c B p.length k room dead arm)).alloc (dC A s.length c B p.length k room dead arm) = w1
  have bP : Blk w1 w.heap.size 24 #[Value.slice A s.length c, .slice B p.length k, .int .i64 room, .bool dead, .int .i64 arm] := by rw [← hW1]; exact (Blk.new w 24 _).alloc _
  have K1 : Hid (Below w.heap.size w w1) := hide (by rw [← hW1]; exact ((Below.refl w.heap.size w).alloc (Nat.le_refl _) _).alloc (by simp) _)
  have zw1 : w1.heap.size = w.heap.size + 1 + 1 := by rw [← hW1]; simp
  clear hW1
  obtain ⟨⟨x0, x1, x2, x3, x4⟩, y0, y1, y2, y3, y4⟩ := bP.five
  go_cut [7] (fun s7 wx => ∃ (gq : Nat) (A' : Option Addr) (c' : Nat) (B' : Option Addr) (k' : Nat), s7 = .pointer (some ⟨gq, 0, none⟩) ∧ Blk wx w.heap.size 24 #[Value.slice A s.length c, .slice B p.length k, .int .i64 room, .bool dead, .int .i64 arm] ∧ Blk wx gq 24 #[.slice A' s.length c', .slice B' p.length k', .int .i64 room, .bool dead, .int .i64 arm] ∧ Rz w.heap.size wx A' s.length c' s ∧ Rz w.heap.size wx B' p.length k' p ∧ Below w.heap.size w wx)
  case first =>
    have RA : Hid (∀ V, Below w1.heap.size w1 V → Reads V w.heap.size 1 A s.length (bv s)) := hide fun V h => Reads.below hs (K1.out.trans (h.mono K1.out.size))
    have RB : Hid (∀ V, Below w1.heap.size w1 V → Reads V w.heap.size 1 B p.length (bv p)) := hide fun V h => Reads.below hp (K1.out.trans (h.mono K1.out.size))
    have allS : Hid (∀ V, Below w1.heap.size w1 V → (V.cell? ⟨w.heap.size, 0, none⟩ = some (.slice A s.length c) ∧ V.cell? ⟨w.heap.size, 1, none⟩ = some (.slice B p.length k) ∧ V.cell? ⟨w.heap.size, 2, none⟩ = some (.int .i64 room) ∧ V.cell? ⟨w.heap.size, 3, none⟩ = some (.bool dead) ∧ V.cell? ⟨w.heap.size, 4, none⟩ = some (.int .i64 arm))) := hide fun V h => blk5b (bP.below h bP.lt)
    have hlA : s.length ≤ 100000000 := by omega
    have hlB : p.length ≤ 100000000 := by omega
    have ZW1 := hide zw1
    clear zw1 hs hp hb
    have kW := hide (Below.refl w1.heap.size w1)
    go_region_held3 (fun W => W.cell? ⟨w.heap.size, 0, none⟩ = some (.slice A s.length c) ∧ W.cell? ⟨w.heap.size, 1, none⟩ = some (.slice B p.length k) ∧ W.cell? ⟨w.heap.size, 2, none⟩ = some (.int .i64 room) ∧ W.cell? ⟨w.heap.size, 3, none⟩ = some (.bool dead) ∧ W.cell? ⟨w.heap.size, 4, none⟩ = some (.int .i64 arm))
      (first | (with_reducible exact blk5b ((bP.below kW.out bP.lt).far5 hne8 _ _ _ _ _)) | (with_reducible refine allS.out _ ?_; ((repeat (first | with_reducible exact kW.out | with_reducible refine Below.drew ?_ | with_reducible refine Below.alloc ?_ ?_ _)); all_goals (have hsz9 := kW.out.size; first | omega | (simp; done) | (simp; omega)))))
      (first
        | (with_reducible refine step_fresh_u8 _ WB ?_ ?_ (.tmp 33) (.tmp 35) ?_ ?_ w.heap.size A s.length c s ?_ (RA.out _ ?_) hlA ?_
           · ((repeat (first | with_reducible exact kB.out | with_reducible refine Below.drew ?_ | with_reducible refine Below.alloc ?_ ?_ _)); all_goals (have hsz9 := kB.out.size; first | omega | (simp; done) | (simp; omega)))
           · rfl
           · rfl
           · exact ⟨_, rfl⟩
           · rfl
           · ((repeat (first | with_reducible exact kW.out | with_reducible refine Below.drew ?_ | with_reducible refine Below.alloc ?_ ?_ _)); all_goals (have hsz9 := kW.out.size; first | omega | (simp; done) | (simp; omega)))
           intro BS eS WA hR hb8 hk2
           have HS := hide (hR.more kW.out.size)
           have HX9 := hide (HQ.out.below hk2)
           clear HQ
           have HQ := hide HX9.out
           clear HX9
           have hzA := hide kW.out.size
           have kX9 := hide (below_more kW.out (Nat.le_refl _) hk2)
           have kW := hide kX9.out
           first
            | (have B9 := hide (Blk.below (h := B8.out) (hb := hk2) B8.out.lt)
               clear t0 t1 t2 t3 t4 r0 r1 r2 r3 r4 B8
               have B8 := hide B9.out
               clear B9
               obtain ⟨⟨t0, t1, t2, t3, t4⟩, r0, r1, r2, r3, r4⟩ := B8.out.five)
            | (have B8 := hide (Blk.below (h := (Blk.new WB 24 #[Value.slice none 0 0, .slice none 0 0, .int .i64 0, .bool false, .int .i64 0])) (hb := hb8) (by simp; try omega))
               have hne8 : w.heap.size ≠ WB.heap.size := (by have z1 := ZW1.out; have z2 := hzA.out; omega)
               have hw8 : Hid (w.heap.size ≤ WB.heap.size) := hide (by have z1 := ZW1.out; have z2 := hzA.out; omega)
               obtain ⟨⟨t0, t1, t2, t3, t4⟩, r0, r1, r2, r3, r4⟩ := B8.out.five)
            | (have B8 := hide (Blk.below (h := ((Blk.new WB 24 #[Value.slice none 0 0, .slice none 0 0, .int .i64 0, .bool false, .int .i64 0]).alloc (.cells #[] 5))) (hb := hb8) (by simp; try omega))
               have hne8 : w.heap.size ≠ WB.heap.size := (by have z1 := ZW1.out; have z2 := hzA.out; omega)
               have hw8 : Hid (w.heap.size ≤ WB.heap.size) := hide (by have z1 := ZW1.out; have z2 := hzA.out; omega)
               obtain ⟨⟨t0, t1, t2, t3, t4⟩, r0, r1, r2, r3, r4⟩ := B8.out.five)
            | (have B8 := hide (Blk.below (h := (by have h := Blk.new (WB.alloc (.cells #[] 5)) 24 #[Value.slice none 0 0, .slice none 0 0, .int .i64 0, .bool false, .int .i64 0]; simpa only [World.size_alloc] using h : Blk ((WB.alloc (.cells #[] 5)).alloc (.cells #[Value.slice none 0 0, .slice none 0 0, .int .i64 0, .bool false, .int .i64 0] 24)) (WB.heap.size + 1) 24 #[Value.slice none 0 0, .slice none 0 0, .int .i64 0, .bool false, .int .i64 0])) (hb := hb8) (by simp; try omega))
               have hne8 : w.heap.size ≠ WB.heap.size + 1 := (by have z1 := ZW1.out; have z2 := hzA.out; omega)
               have hw8 : Hid (w.heap.size ≤ WB.heap.size + 1) := hide (by have z1 := ZW1.out; have z2 := hzA.out; omega)
               obtain ⟨⟨t0, t1, t2, t3, t4⟩, r0, r1, r2, r3, r4⟩ := B8.out.five)
            | skip
           clear hR hb8 hk2 kX9 kB)
        | (with_reducible refine step_fresh_u8 _ WA ?_ ?_ (.tmp 37) (.tmp 39) ?_ ?_ w.heap.size B p.length k p ?_ (RB.out _ ?_) hlB ?_
           · ((repeat (first | with_reducible exact kA.out | with_reducible refine Below.drew ?_ | with_reducible refine Below.alloc ?_ ?_ _)); all_goals (have hsz9 := kA.out.size; first | omega | (simp; done) | (simp; omega)))
           · rfl
           · rfl
           · exact ⟨_, rfl⟩
           · rfl
           · ((repeat (first | with_reducible exact kW.out | with_reducible refine Below.drew ?_ | with_reducible refine Below.alloc ?_ ?_ _)); all_goals (have hsz9 := kW.out.size; first | omega | (simp; done) | (simp; omega)))
           intro BQ eQ WB hR hb8 hk2
           have HQ := hide (hR.more kW.out.size)
           have HX9 := hide (HS.out.below hk2)
           clear HS
           have HS := hide HX9.out
           clear HX9
           have hzA := hide kW.out.size
           have kX9 := hide (below_more kW.out (Nat.le_refl _) hk2)
           have kW := hide kX9.out
           first
            | (have B9 := hide (Blk.below (h := B8.out) (hb := hk2) B8.out.lt)
               clear t0 t1 t2 t3 t4 r0 r1 r2 r3 r4 B8
               have B8 := hide B9.out
               clear B9
               obtain ⟨⟨t0, t1, t2, t3, t4⟩, r0, r1, r2, r3, r4⟩ := B8.out.five)
            | (have B8 := hide (Blk.below (h := (Blk.new WA 24 #[Value.slice none 0 0, .slice none 0 0, .int .i64 0, .bool false, .int .i64 0])) (hb := hb8) (by simp; try omega))
               have hne8 : w.heap.size ≠ WA.heap.size := (by have z1 := ZW1.out; have z2 := hzA.out; omega)
               have hw8 : Hid (w.heap.size ≤ WA.heap.size) := hide (by have z1 := ZW1.out; have z2 := hzA.out; omega)
               obtain ⟨⟨t0, t1, t2, t3, t4⟩, r0, r1, r2, r3, r4⟩ := B8.out.five)
            | (have B8 := hide (Blk.below (h := ((Blk.new WA 24 #[Value.slice none 0 0, .slice none 0 0, .int .i64 0, .bool false, .int .i64 0]).alloc (.cells #[] 5))) (hb := hb8) (by simp; try omega))
               have hne8 : w.heap.size ≠ WA.heap.size := (by have z1 := ZW1.out; have z2 := hzA.out; omega)
               have hw8 : Hid (w.heap.size ≤ WA.heap.size) := hide (by have z1 := ZW1.out; have z2 := hzA.out; omega)
               obtain ⟨⟨t0, t1, t2, t3, t4⟩, r0, r1, r2, r3, r4⟩ := B8.out.five)
            | (have B8 := hide (Blk.below (h := (by have h := Blk.new (WA.alloc (.cells #[] 5)) 24 #[Value.slice none 0 0, .slice none 0 0, .int .i64 0, .bool false, .int .i64 0]; simpa only [World.size_alloc] using h : Blk ((WA.alloc (.cells #[] 5)).alloc (.cells #[Value.slice none 0 0, .slice none 0 0, .int .i64 0, .bool false, .int .i64 0] 24)) (WA.heap.size + 1) 24 #[Value.slice none 0 0, .slice none 0 0, .int .i64 0, .bool false, .int .i64 0])) (hb := hb8) (by simp; try omega))
               have hne8 : w.heap.size ≠ WA.heap.size + 1 := (by have z1 := ZW1.out; have z2 := hzA.out; omega)
               have hw8 : Hid (w.heap.size ≤ WA.heap.size + 1) := hide (by have z1 := ZW1.out; have z2 := hzA.out; omega)
               obtain ⟨⟨t0, t1, t2, t3, t4⟩, r0, r1, r2, r3, r4⟩ := B8.out.five)
            | skip
           clear hR hb8 hk2 kX9 kA)
        | (with_reducible refine step_fresh_u8 _ w1 ?_ ?_ (.tmp 33) (.tmp 35) ?_ ?_ w.heap.size A s.length c s ?_ (RA.out _ ?_) hlA ?_
           · ((repeat (first | with_reducible exact kW.out | with_reducible refine Below.drew ?_ | with_reducible refine Below.alloc ?_ ?_ _)); all_goals (have hsz9 := kW.out.size; first | omega | (simp; done) | (simp; omega)))
           · rfl
           · rfl
           · exact ⟨_, rfl⟩
           · rfl
           · ((repeat (first | with_reducible exact kW.out | with_reducible refine Below.drew ?_ | with_reducible refine Below.alloc ?_ ?_ _)); all_goals (have hsz9 := kW.out.size; first | omega | (simp; done) | (simp; omega)))
           intro BS eS WA hR hb8 hk2
           have HS := hide hR
           have kW := hide hk2
           have kA := hide (Below.refl WA.heap.size WA)
           first
            | (have B8 := hide (Blk.below (h := (Blk.new w1 24 #[Value.slice none 0 0, .slice none 0 0, .int .i64 0, .bool false, .int .i64 0]).drew) (hb := hb8) (by simp; try omega))
               have hne8 : w.heap.size ≠ w1.heap.size := (by have z1 := ZW1.out; have z2 := Nat.le_refl 0; omega)
               have hw8 : Hid (w.heap.size ≤ w1.heap.size) := hide (by have z1 := ZW1.out; have z2 := Nat.le_refl 0; omega)
               obtain ⟨⟨t0, t1, t2, t3, t4⟩, r0, r1, r2, r3, r4⟩ := B8.out.five)
            | (have B8 := hide (Blk.below (h := ((Blk.new w1 24 #[Value.slice none 0 0, .slice none 0 0, .int .i64 0, .bool false, .int .i64 0]).alloc (.cells #[] 5)).drew) (hb := hb8) (by simp; try omega))
               have hne8 : w.heap.size ≠ w1.heap.size := (by have z1 := ZW1.out; have z2 := Nat.le_refl 0; omega)
               have hw8 : Hid (w.heap.size ≤ w1.heap.size) := hide (by have z1 := ZW1.out; have z2 := Nat.le_refl 0; omega)
               obtain ⟨⟨t0, t1, t2, t3, t4⟩, r0, r1, r2, r3, r4⟩ := B8.out.five)
            | (have B8 := hide (Blk.below (h := (((Blk.new w1 24 #[Value.slice none 0 0, .slice none 0 0, .int .i64 0, .bool false, .int .i64 0]).alloc (.cells #[] 5)).alloc (.cells #[] 5)).drew) (hb := hb8) (by simp; try omega))
               have hne8 : w.heap.size ≠ w1.heap.size := (by have z1 := ZW1.out; have z2 := Nat.le_refl 0; omega)
               have hw8 : Hid (w.heap.size ≤ w1.heap.size) := hide (by have z1 := ZW1.out; have z2 := Nat.le_refl 0; omega)
               obtain ⟨⟨t0, t1, t2, t3, t4⟩, r0, r1, r2, r3, r4⟩ := B8.out.five)
            | (have B8 := hide (Blk.below (h := (by have h := Blk.new (w1.alloc (.cells #[] 5)) 24 #[Value.slice none 0 0, .slice none 0 0, .int .i64 0, .bool false, .int .i64 0]; simpa only [World.size_alloc] using h : Blk ((w1.alloc (.cells #[] 5)).alloc (.cells #[Value.slice none 0 0, .slice none 0 0, .int .i64 0, .bool false, .int .i64 0] 24)) (w1.heap.size + 1) 24 #[Value.slice none 0 0, .slice none 0 0, .int .i64 0, .bool false, .int .i64 0]).drew) (hb := hb8) (by simp; try omega))
               have hne8 : w.heap.size ≠ w1.heap.size + 1 := (by have z1 := ZW1.out; have z2 := Nat.le_refl 0; omega)
               have hw8 : Hid (w.heap.size ≤ w1.heap.size + 1) := hide (by have z1 := ZW1.out; have z2 := Nat.le_refl 0; omega)
               obtain ⟨⟨t0, t1, t2, t3, t4⟩, r0, r1, r2, r3, r4⟩ := B8.out.five)
            | (have B8 := hide (Blk.below (h := ((by have h := Blk.new (w1.alloc (.cells #[] 5)) 24 #[Value.slice none 0 0, .slice none 0 0, .int .i64 0, .bool false, .int .i64 0]; simpa only [World.size_alloc] using h : Blk ((w1.alloc (.cells #[] 5)).alloc (.cells #[Value.slice none 0 0, .slice none 0 0, .int .i64 0, .bool false, .int .i64 0] 24)) (w1.heap.size + 1) 24 #[Value.slice none 0 0, .slice none 0 0, .int .i64 0, .bool false, .int .i64 0]).alloc (.cells #[] 5)).drew) (hb := hb8) (by simp; try omega))
               have hne8 : w.heap.size ≠ w1.heap.size + 1 := (by have z1 := ZW1.out; have z2 := Nat.le_refl 0; omega)
               have hw8 : Hid (w.heap.size ≤ w1.heap.size + 1) := hide (by have z1 := ZW1.out; have z2 := Nat.le_refl 0; omega)
               obtain ⟨⟨t0, t1, t2, t3, t4⟩, r0, r1, r2, r3, r4⟩ := B8.out.five)
            | (have B8 := hide (Blk.below (h := (by have h := Blk.new ((w1.alloc (.cells #[] 5)).alloc (.cells #[] 5)) 24 #[Value.slice none 0 0, .slice none 0 0, .int .i64 0, .bool false, .int .i64 0]; simpa only [World.size_alloc] using h : Blk (((w1.alloc (.cells #[] 5)).alloc (.cells #[] 5)).alloc (.cells #[Value.slice none 0 0, .slice none 0 0, .int .i64 0, .bool false, .int .i64 0] 24)) (w1.heap.size + 1 + 1) 24 #[Value.slice none 0 0, .slice none 0 0, .int .i64 0, .bool false, .int .i64 0]).drew) (hb := hb8) (by simp; try omega))
               have hne8 : w.heap.size ≠ w1.heap.size + 1 + 1 := (by have z1 := ZW1.out; have z2 := Nat.le_refl 0; omega)
               have hw8 : Hid (w.heap.size ≤ w1.heap.size + 1 + 1) := hide (by have z1 := ZW1.out; have z2 := Nat.le_refl 0; omega)
               obtain ⟨⟨t0, t1, t2, t3, t4⟩, r0, r1, r2, r3, r4⟩ := B8.out.five)
            | skip
           clear hR hb8 hk2)
        | (with_reducible refine step_fresh_u8 _ w1 ?_ ?_ (.tmp 37) (.tmp 39) ?_ ?_ w.heap.size B p.length k p ?_ (RB.out _ ?_) hlB ?_
           · ((repeat (first | with_reducible exact kW.out | with_reducible refine Below.drew ?_ | with_reducible refine Below.alloc ?_ ?_ _)); all_goals (have hsz9 := kW.out.size; first | omega | (simp; done) | (simp; omega)))
           · rfl
           · rfl
           · exact ⟨_, rfl⟩
           · rfl
           · ((repeat (first | with_reducible exact kW.out | with_reducible refine Below.drew ?_ | with_reducible refine Below.alloc ?_ ?_ _)); all_goals (have hsz9 := kW.out.size; first | omega | (simp; done) | (simp; omega)))
           intro BQ eQ WB hR hb8 hk2
           have HQ := hide hR
           have kW := hide hk2
           have kB := hide (Below.refl WB.heap.size WB)
           first
            | (have B8 := hide (Blk.below (h := (Blk.new w1 24 #[Value.slice none 0 0, .slice none 0 0, .int .i64 0, .bool false, .int .i64 0]).drew) (hb := hb8) (by simp; try omega))
               have hne8 : w.heap.size ≠ w1.heap.size := (by have z1 := ZW1.out; have z2 := Nat.le_refl 0; omega)
               have hw8 : Hid (w.heap.size ≤ w1.heap.size) := hide (by have z1 := ZW1.out; have z2 := Nat.le_refl 0; omega)
               obtain ⟨⟨t0, t1, t2, t3, t4⟩, r0, r1, r2, r3, r4⟩ := B8.out.five)
            | (have B8 := hide (Blk.below (h := ((Blk.new w1 24 #[Value.slice none 0 0, .slice none 0 0, .int .i64 0, .bool false, .int .i64 0]).alloc (.cells #[] 5)).drew) (hb := hb8) (by simp; try omega))
               have hne8 : w.heap.size ≠ w1.heap.size := (by have z1 := ZW1.out; have z2 := Nat.le_refl 0; omega)
               have hw8 : Hid (w.heap.size ≤ w1.heap.size) := hide (by have z1 := ZW1.out; have z2 := Nat.le_refl 0; omega)
               obtain ⟨⟨t0, t1, t2, t3, t4⟩, r0, r1, r2, r3, r4⟩ := B8.out.five)
            | (have B8 := hide (Blk.below (h := (((Blk.new w1 24 #[Value.slice none 0 0, .slice none 0 0, .int .i64 0, .bool false, .int .i64 0]).alloc (.cells #[] 5)).alloc (.cells #[] 5)).drew) (hb := hb8) (by simp; try omega))
               have hne8 : w.heap.size ≠ w1.heap.size := (by have z1 := ZW1.out; have z2 := Nat.le_refl 0; omega)
               have hw8 : Hid (w.heap.size ≤ w1.heap.size) := hide (by have z1 := ZW1.out; have z2 := Nat.le_refl 0; omega)
               obtain ⟨⟨t0, t1, t2, t3, t4⟩, r0, r1, r2, r3, r4⟩ := B8.out.five)
            | (have B8 := hide (Blk.below (h := (by have h := Blk.new (w1.alloc (.cells #[] 5)) 24 #[Value.slice none 0 0, .slice none 0 0, .int .i64 0, .bool false, .int .i64 0]; simpa only [World.size_alloc] using h : Blk ((w1.alloc (.cells #[] 5)).alloc (.cells #[Value.slice none 0 0, .slice none 0 0, .int .i64 0, .bool false, .int .i64 0] 24)) (w1.heap.size + 1) 24 #[Value.slice none 0 0, .slice none 0 0, .int .i64 0, .bool false, .int .i64 0]).drew) (hb := hb8) (by simp; try omega))
               have hne8 : w.heap.size ≠ w1.heap.size + 1 := (by have z1 := ZW1.out; have z2 := Nat.le_refl 0; omega)
               have hw8 : Hid (w.heap.size ≤ w1.heap.size + 1) := hide (by have z1 := ZW1.out; have z2 := Nat.le_refl 0; omega)
               obtain ⟨⟨t0, t1, t2, t3, t4⟩, r0, r1, r2, r3, r4⟩ := B8.out.five)
            | (have B8 := hide (Blk.below (h := ((by have h := Blk.new (w1.alloc (.cells #[] 5)) 24 #[Value.slice none 0 0, .slice none 0 0, .int .i64 0, .bool false, .int .i64 0]; simpa only [World.size_alloc] using h : Blk ((w1.alloc (.cells #[] 5)).alloc (.cells #[Value.slice none 0 0, .slice none 0 0, .int .i64 0, .bool false, .int .i64 0] 24)) (w1.heap.size + 1) 24 #[Value.slice none 0 0, .slice none 0 0, .int .i64 0, .bool false, .int .i64 0]).alloc (.cells #[] 5)).drew) (hb := hb8) (by simp; try omega))
               have hne8 : w.heap.size ≠ w1.heap.size + 1 := (by have z1 := ZW1.out; have z2 := Nat.le_refl 0; omega)
               have hw8 : Hid (w.heap.size ≤ w1.heap.size + 1) := hide (by have z1 := ZW1.out; have z2 := Nat.le_refl 0; omega)
               obtain ⟨⟨t0, t1, t2, t3, t4⟩, r0, r1, r2, r3, r4⟩ := B8.out.five)
            | (have B8 := hide (Blk.below (h := (by have h := Blk.new ((w1.alloc (.cells #[] 5)).alloc (.cells #[] 5)) 24 #[Value.slice none 0 0, .slice none 0 0, .int .i64 0, .bool false, .int .i64 0]; simpa only [World.size_alloc] using h : Blk (((w1.alloc (.cells #[] 5)).alloc (.cells #[] 5)).alloc (.cells #[Value.slice none 0 0, .slice none 0 0, .int .i64 0, .bool false, .int .i64 0] 24)) (w1.heap.size + 1 + 1) 24 #[Value.slice none 0 0, .slice none 0 0, .int .i64 0, .bool false, .int .i64 0]).drew) (hb := hb8) (by simp; try omega))
               have hne8 : w.heap.size ≠ w1.heap.size + 1 + 1 := (by have z1 := ZW1.out; have z2 := Nat.le_refl 0; omega)
               have hw8 : Hid (w.heap.size ≤ w1.heap.size + 1 + 1) := hide (by have z1 := ZW1.out; have z2 := Nat.le_refl 0; omega)
               obtain ⟨⟨t0, t1, t2, t3, t4⟩, r0, r1, r2, r3, r4⟩ := B8.out.five)
            | skip
           clear hR hb8 hk2))
    all_goals
      go_wp2_with fail
      go_meet
    all_goals
      have hM := K1.out.size
      have kWW := below_more K1.out (Nat.le_refl _) kW.out
      first
        | with_reducible exact ⟨_, BS, eS, BQ, eQ, rfl, (bP.below kW.out bP.lt).alloc _, Blk.new _ 24 _, (HS.out.more hM).alloc _, (HQ.out.more hM).alloc _, kWW.alloc kWW.size _⟩
        | with_reducible exact ⟨_, BS, eS, BQ, eQ, rfl, (bP.below kW.out bP.lt).far5 hne8 _ _ _ _ _, B8.out.set5 _ _ _ _ _, Rz.set5 (HS.out.more hM) B8.out _ _ _ _ _, Rz.set5 (HQ.out.more hM) B8.out _ _ _ _ _, Below.set5_ kWW hw8.out _ _ _ _ _⟩
  case rest =>
    obtain ⟨gq, A9, c9, B9, k9, rfl, bP3, bQ3, R9, S9, K⟩ := hcut
    have RR := hide (RdK.mk_ R9.rd S9.rd)
    have KK := hide K
    have cap9 := hide R9.caps
    have cap8 := hide S9.caps
    have RD := hide (RdK.mk_ ((Reads.below hs K).more K.size) ((Reads.below hp K).more K.size))
    have hrB := hide ((Reads.below hb K).more K.size)
    have BP3 := hide bP3
    have BQ3 := hide bQ3
    have CC3 := hide (Below.refl wc.heap.size wc)
    clear R9 S9 K x0 x1 x2 x3 x4 y0 y1 y2 y3 y4 zw1 K1 hs hp hb bP bP3 bQ3
    obtain ⟨⟨x0, x1, x2, x3, x4⟩, y0, y1, y2, y3, y4⟩ := BP3.out.five
    obtain ⟨⟨u0, u1, u2, u3, u4⟩, v0, v1, v2, v3, v4⟩ := BQ3.out.five
    obtain ⟨T, hT⟩ : ∃ T, apD s.length p.length room dead arm = T := ⟨_, rfl⟩
    obtain ⟨R, hR⟩ : ∃ R, apA s.length p.length room dead arm = R := ⟨_, rfl⟩
    obtain ⟨E, hE⟩ : ∃ E, apE s.length p.length room dead arm b.length = E := ⟨_, rfl⟩
    obtain ⟨P, hP⟩ : ∃ P, apP s.length p.length p room dead arm b = P := ⟨_, rfl⟩
    obtain ⟨M, hM⟩ : ∃ M, P.length = M := ⟨_, rfl⟩
    obtain ⟨E2, hE2⟩ : ∃ E2, syE s.length p.length room dead arm = E2 := ⟨_, rfl⟩
    obtain ⟨S2, hS2⟩ : ∃ S2, syS s p E2 = S2 := ⟨_, rfl⟩
    obtain ⟨P2, hP2⟩ : ∃ P2, syP p E2 = P2 := ⟨_, rfl⟩
    obtain ⟨N2, hN2⟩ : ∃ N2, S2.length = N2 := ⟨_, rfl⟩
    obtain ⟨M2, hM2⟩ : ∃ M2, P2.length = M2 := ⟨_, rfl⟩
    obtain ⟨E3, hE3⟩ : ∃ E3, ctE s.length p.length room dead arm q = E3 := ⟨_, rfl⟩
    obtain ⟨S3, hS3⟩ : ∃ S3, ctS s E3 q = S3 := ⟨_, rfl⟩
    obtain ⟨N3, hN3⟩ : ∃ N3, S3.length = N3 := ⟨_, rfl⟩
    obtain ⟨rm, am, E4, hN4⟩ := newR_form q
    have HhT := hide hT
    have HhR := hide hR
    have HhE := hide hE
    have HhP := hide hP
    have HhM := hide hM
    have HhE2 := hide hE2
    have HhS2 := hide hS2
    have HhP2 := hide hP2
    have HhN2 := hide hN2
    have HhM2 := hide hM2
    have HhE3 := hide hE3
    have HhS3 := hide hS3
    have HhN3 := hide hN3
    have HhN4 := hide hN4
    clear hT hR hE hP hM hE2 hS2 hP2 hN2 hM2 hE3 hS3 hN3 hN4
    go_wp2_with fail
    refine (append_n A9 s.length c9 B9 p.length k9 room dead arm s p b Db b.length kb _ (RR.out.below CC3.out).one (RR.out.below CC3.out).two ((Reads.below hrB.out CC3.out).more CC3.out.size) (by omega) (by omega) (by omega) ha T R E P M HhT.out HhR.out HhE.out HhP.out HhM.out).mono ?_
    rintro e w4 ⟨A10, c10, B10, k10, rfl, h10, j10, k4⟩
    clear x0 x1 x2 x3 x4 y0 y1 y2 y3 y4 u0 u1 u2 u3 u4 v0 v1 v2 v3 v4
    have BP4 := hide (BP3.out.below k4 BP3.out.lt)
    have BQ4 := hide (BQ3.out.below k4 BQ3.out.lt)
    have CC4 := hide k4
    have R4 := hide (RdK.mk_ h10.rd j10.rd)
    clear h10 j10 k4
    obtain ⟨⟨x0, x1, x2, x3, x4⟩, y0, y1, y2, y3, y4⟩ := BP4.out.five
    obtain ⟨⟨u0, u1, u2, u3, u4⟩, v0, v1, v2, v3, v4⟩ := BQ4.out.five
    have zp4 := BP4.out.lt
    have zq4 := BQ4.out.lt
    go_wp2_with fail
    refine (rappend_n A c B k room dead arm s p b Db kb _ (RD.out.below (CC4.out.alloc CC4.out.size _)).one (RD.out.below (CC4.out.alloc CC4.out.size _)).two ((Reads.below hrB.out (CC4.out.alloc CC4.out.size _)).more (CC4.out.alloc CC4.out.size _).size) (by omega) (by omega) (by omega) ha T R E P HhT.out HhR.out HhE.out HhP.out).mono ?_
    rintro e w5 ⟨A13, n13, c13, B13, m13, k13, rfl, h13, j13, k5⟩
    clear x0 x1 x2 x3 x4 y0 y1 y2 y3 y4 u0 u1 u2 u3 u4 v0 v1 v2 v3 v4
    have BP5 := hide ((BP4.out.alloc (.cells #[Value.slice A10 s.length c10, .slice B10 M k10, .int .i64 room, .bool T, .int .i64 R] 24)).below k5 (BP4.out.alloc (.cells #[Value.slice A10 s.length c10, .slice B10 M k10, .int .i64 room, .bool T, .int .i64 R] 24)).lt)
    have BQ5 := hide ((BQ4.out.alloc (.cells #[Value.slice A10 s.length c10, .slice B10 M k10, .int .i64 room, .bool T, .int .i64 R] 24)).below k5 (BQ4.out.alloc (.cells #[Value.slice A10 s.length c10, .slice B10 M k10, .int .i64 room, .bool T, .int .i64 R] 24)).lt)
    have CC5 := hide (below_more (CC4.out.alloc CC4.out.size (.cells #[Value.slice A10 s.length c10, .slice B10 M k10, .int .i64 room, .bool T, .int .i64 R] 24)) (Nat.le_refl _) k5)
    have KS4 := hide (below_more ((Below.refl w4.heap.size w4).alloc (Nat.le_refl _) (.cells #[Value.slice A10 s.length c10, .slice B10 M k10, .int .i64 room, .bool T, .int .i64 R] 24)) (Nat.le_refl _) k5)
    have BX4 := hide ((Blk.new w4 24 #[Value.slice A10 s.length c10, .slice B10 M k10, .int .i64 room, .bool T, .int .i64 R]).below k5 (Blk.new w4 24 #[Value.slice A10 s.length c10, .slice B10 M k10, .int .i64 room, .bool T, .int .i64 R]).lt)
    have R5 := hide (RdK.mk_ h13 j13)
    clear h13 j13 k5
    obtain ⟨⟨x0, x1, x2, x3, x4⟩, y0, y1, y2, y3, y4⟩ := BP5.out.five
    obtain ⟨⟨u0, u1, u2, u3, u4⟩, v0, v1, v2, v3, v4⟩ := BQ5.out.five
    have zp5 := BP5.out.lt
    have zq5 := BQ5.out.lt
    go_wp2_with fail
    refine (sync_n A9 s.length c9 B9 p.length k9 room dead arm s p _ (RR.out.below (CC5.out.alloc CC5.out.size _)).one (RR.out.below (CC5.out.alloc CC5.out.size _)).two (by omega) (by omega) ha T R E2 S2 P2 N2 M2 HhT.out HhR.out HhE2.out HhS2.out HhP2.out HhN2.out HhM2.out).mono ?_
    rintro e w6 ⟨A16, c16, B16, k16, rfl, h16, j16, k6⟩
    clear x0 x1 x2 x3 x4 y0 y1 y2 y3 y4 u0 u1 u2 u3 u4 v0 v1 v2 v3 v4
    have BP6 := hide ((BP5.out.alloc (.cells #[Value.slice A13 n13 c13, .slice B13 m13 k13, .int .i64 room, .bool T, .int .i64 R] 24)).below k6 (BP5.out.alloc (.cells #[Value.slice A13 n13 c13, .slice B13 m13 k13, .int .i64 room, .bool T, .int .i64 R] 24)).lt)
    have BQ6 := hide ((BQ5.out.alloc (.cells #[Value.slice A13 n13 c13, .slice B13 m13 k13, .int .i64 room, .bool T, .int .i64 R] 24)).below k6 (BQ5.out.alloc (.cells #[Value.slice A13 n13 c13, .slice B13 m13 k13, .int .i64 room, .bool T, .int .i64 R] 24)).lt)
    have CC6 := hide (below_more (CC5.out.alloc CC5.out.size (.cells #[Value.slice A13 n13 c13, .slice B13 m13 k13, .int .i64 room, .bool T, .int .i64 R] 24)) (Nat.le_refl _) k6)
    have KS5 := hide (below_more ((Below.refl w5.heap.size w5).alloc (Nat.le_refl _) (.cells #[Value.slice A13 n13 c13, .slice B13 m13 k13, .int .i64 room, .bool T, .int .i64 R] 24)) (Nat.le_refl _) k6)
    have BX5 := hide ((Blk.new w5 24 #[Value.slice A13 n13 c13, .slice B13 m13 k13, .int .i64 room, .bool T, .int .i64 R]).below k6 (Blk.new w5 24 #[Value.slice A13 n13 c13, .slice B13 m13 k13, .int .i64 room, .bool T, .int .i64 R]).lt)
    have R6 := hide (RdK.mk_ h16.rd j16.rd)
    clear h16 j16 k6
    obtain ⟨⟨x0, x1, x2, x3, x4⟩, y0, y1, y2, y3, y4⟩ := BP6.out.five
    obtain ⟨⟨u0, u1, u2, u3, u4⟩, v0, v1, v2, v3, v4⟩ := BQ6.out.five
    have zp6 := BP6.out.lt
    have zq6 := BQ6.out.lt
    go_wp2_with fail
    refine (rsync_n A c B k room dead arm s p _ (RD.out.below (CC6.out.alloc CC6.out.size _)).one (RD.out.below (CC6.out.alloc CC6.out.size _)).two (by omega) (by omega) ha T R E2 S2 P2 HhT.out HhR.out HhE2.out HhS2.out HhP2.out).mono ?_
    rintro e w7 ⟨A19, n19, c19, B19, m19, k19, rfl, h19, j19, k7⟩
    clear x0 x1 x2 x3 x4 y0 y1 y2 y3 y4 u0 u1 u2 u3 u4 v0 v1 v2 v3 v4
    have BP7 := hide ((BP6.out.alloc (.cells #[Value.slice A16 N2 c16, .slice B16 M2 k16, .int .i64 room, .bool T, .int .i64 R] 24)).below k7 (BP6.out.alloc (.cells #[Value.slice A16 N2 c16, .slice B16 M2 k16, .int .i64 room, .bool T, .int .i64 R] 24)).lt)
    have BQ7 := hide ((BQ6.out.alloc (.cells #[Value.slice A16 N2 c16, .slice B16 M2 k16, .int .i64 room, .bool T, .int .i64 R] 24)).below k7 (BQ6.out.alloc (.cells #[Value.slice A16 N2 c16, .slice B16 M2 k16, .int .i64 room, .bool T, .int .i64 R] 24)).lt)
    have CC7 := hide (below_more (CC6.out.alloc CC6.out.size (.cells #[Value.slice A16 N2 c16, .slice B16 M2 k16, .int .i64 room, .bool T, .int .i64 R] 24)) (Nat.le_refl _) k7)
    have KS6 := hide (below_more ((Below.refl w6.heap.size w6).alloc (Nat.le_refl _) (.cells #[Value.slice A16 N2 c16, .slice B16 M2 k16, .int .i64 room, .bool T, .int .i64 R] 24)) (Nat.le_refl _) k7)
    have BX6 := hide ((Blk.new w6 24 #[Value.slice A16 N2 c16, .slice B16 M2 k16, .int .i64 room, .bool T, .int .i64 R]).below k7 (Blk.new w6 24 #[Value.slice A16 N2 c16, .slice B16 M2 k16, .int .i64 room, .bool T, .int .i64 R]).lt)
    have R7 := hide (RdK.mk_ h19 j19)
    clear h19 j19 k7
    obtain ⟨⟨x0, x1, x2, x3, x4⟩, y0, y1, y2, y3, y4⟩ := BP7.out.five
    obtain ⟨⟨u0, u1, u2, u3, u4⟩, v0, v1, v2, v3, v4⟩ := BQ7.out.five
    have zp7 := BP7.out.lt
    have zq7 := BQ7.out.lt
    go_wp2_with fail
    refine (cut_n A9 s.length c9 B9 p.length k9 room dead arm q s p _ (RR.out.below (CC7.out.alloc CC7.out.size _)).one (RR.out.below (CC7.out.alloc CC7.out.size _)).two (by omega) (by omega) cap9.out.1 E3 S3 N3 HhE3.out HhS3.out HhN3.out).mono ?_
    rintro e w8 ⟨A22, c22, B22, k22, rfl, h22, j22, k8⟩
    clear x0 x1 x2 x3 x4 y0 y1 y2 y3 y4 u0 u1 u2 u3 u4 v0 v1 v2 v3 v4
    have BP8 := hide ((BP7.out.alloc (.cells #[Value.slice A19 n19 c19, .slice B19 m19 k19, .int .i64 room, .bool T, .int .i64 R] 24)).below k8 (BP7.out.alloc (.cells #[Value.slice A19 n19 c19, .slice B19 m19 k19, .int .i64 room, .bool T, .int .i64 R] 24)).lt)
    have BQ8 := hide ((BQ7.out.alloc (.cells #[Value.slice A19 n19 c19, .slice B19 m19 k19, .int .i64 room, .bool T, .int .i64 R] 24)).below k8 (BQ7.out.alloc (.cells #[Value.slice A19 n19 c19, .slice B19 m19 k19, .int .i64 room, .bool T, .int .i64 R] 24)).lt)
    have CC8 := hide (below_more (CC7.out.alloc CC7.out.size (.cells #[Value.slice A19 n19 c19, .slice B19 m19 k19, .int .i64 room, .bool T, .int .i64 R] 24)) (Nat.le_refl _) k8)
    have KS7 := hide (below_more ((Below.refl w7.heap.size w7).alloc (Nat.le_refl _) (.cells #[Value.slice A19 n19 c19, .slice B19 m19 k19, .int .i64 room, .bool T, .int .i64 R] 24)) (Nat.le_refl _) k8)
    have BX7 := hide ((Blk.new w7 24 #[Value.slice A19 n19 c19, .slice B19 m19 k19, .int .i64 room, .bool T, .int .i64 R]).below k8 (Blk.new w7 24 #[Value.slice A19 n19 c19, .slice B19 m19 k19, .int .i64 room, .bool T, .int .i64 R]).lt)
    have R8 := hide (RdK.mk_ h22.rd j22.rd)
    clear h22 j22 k8
    obtain ⟨⟨x0, x1, x2, x3, x4⟩, y0, y1, y2, y3, y4⟩ := BP8.out.five
    obtain ⟨⟨u0, u1, u2, u3, u4⟩, v0, v1, v2, v3, v4⟩ := BQ8.out.five
    have zp8 := BP8.out.lt
    have zq8 := BQ8.out.lt
    go_wp2_with fail
    refine (rcut_n A c B k room dead arm q s p _ (RD.out.below (CC8.out.alloc CC8.out.size _)).one (RD.out.below (CC8.out.alloc CC8.out.size _)).two (by omega) (by omega) hc E3 S3 HhE3.out HhS3.out).mono ?_
    rintro e w9 ⟨A24, n24, c24, B24, m24, k24, rfl, h24, j24, k9'⟩
    clear x0 x1 x2 x3 x4 y0 y1 y2 y3 y4 u0 u1 u2 u3 u4 v0 v1 v2 v3 v4
    have BP9 := hide ((BP8.out.alloc (.cells #[Value.slice A22 N3 c22, .slice B22 p.length k22, .int .i64 room, .bool dead, .int .i64 arm] 24)).below k9' (BP8.out.alloc (.cells #[Value.slice A22 N3 c22, .slice B22 p.length k22, .int .i64 room, .bool dead, .int .i64 arm] 24)).lt)
    have BQ9 := hide ((BQ8.out.alloc (.cells #[Value.slice A22 N3 c22, .slice B22 p.length k22, .int .i64 room, .bool dead, .int .i64 arm] 24)).below k9' (BQ8.out.alloc (.cells #[Value.slice A22 N3 c22, .slice B22 p.length k22, .int .i64 room, .bool dead, .int .i64 arm] 24)).lt)
    have CC9 := hide (below_more (CC8.out.alloc CC8.out.size (.cells #[Value.slice A22 N3 c22, .slice B22 p.length k22, .int .i64 room, .bool dead, .int .i64 arm] 24)) (Nat.le_refl _) k9')
    have KS8 := hide (below_more ((Below.refl w8.heap.size w8).alloc (Nat.le_refl _) (.cells #[Value.slice A22 N3 c22, .slice B22 p.length k22, .int .i64 room, .bool dead, .int .i64 arm] 24)) (Nat.le_refl _) k9')
    have BX8 := hide ((Blk.new w8 24 #[Value.slice A22 N3 c22, .slice B22 p.length k22, .int .i64 room, .bool dead, .int .i64 arm]).below k9' (Blk.new w8 24 #[Value.slice A22 N3 c22, .slice B22 p.length k22, .int .i64 room, .bool dead, .int .i64 arm]).lt)
    have R9 := hide (RdK.mk_ h24 j24)
    clear h24 j24 k9'
    obtain ⟨⟨x0, x1, x2, x3, x4⟩, y0, y1, y2, y3, y4⟩ := BP9.out.five
    obtain ⟨⟨u0, u1, u2, u3, u4⟩, v0, v1, v2, v3, v4⟩ := BQ9.out.five
    have zp9 := BP9.out.lt
    have zq9 := BQ9.out.lt
    go_wp2_with fail
    refine (new_any q _).mono ?_
    rintro e w10 ⟨rfl, k10'⟩
    clear x0 x1 x2 x3 x4 y0 y1 y2 y3 y4 u0 u1 u2 u3 u4 v0 v1 v2 v3 v4
    have BP10 := hide ((BP9.out.alloc (.cells #[Value.slice A24 n24 c24, .slice B24 m24 k24, .int .i64 room, .bool dead, .int .i64 arm] 24)).below k10' (BP9.out.alloc (.cells #[Value.slice A24 n24 c24, .slice B24 m24 k24, .int .i64 room, .bool dead, .int .i64 arm] 24)).lt)
    have BQ10 := hide ((BQ9.out.alloc (.cells #[Value.slice A24 n24 c24, .slice B24 m24 k24, .int .i64 room, .bool dead, .int .i64 arm] 24)).below k10' (BQ9.out.alloc (.cells #[Value.slice A24 n24 c24, .slice B24 m24 k24, .int .i64 room, .bool dead, .int .i64 arm] 24)).lt)
    have CC10 := hide (below_more (CC9.out.alloc CC9.out.size (.cells #[Value.slice A24 n24 c24, .slice B24 m24 k24, .int .i64 room, .bool dead, .int .i64 arm] 24)) (Nat.le_refl _) k10')
    have KS9 := hide (below_more ((Below.refl w9.heap.size w9).alloc (Nat.le_refl _) (.cells #[Value.slice A24 n24 c24, .slice B24 m24 k24, .int .i64 room, .bool dead, .int .i64 arm] 24)) (Nat.le_refl _) k10')
    have BX9 := hide ((Blk.new w9 24 #[Value.slice A24 n24 c24, .slice B24 m24 k24, .int .i64 room, .bool dead, .int .i64 arm]).below k10' (Blk.new w9 24 #[Value.slice A24 n24 c24, .slice B24 m24 k24, .int .i64 room, .bool dead, .int .i64 arm]).lt)
    clear k10'
    rw [HhN4.out]
    obtain ⟨⟨x0, x1, x2, x3, x4⟩, y0, y1, y2, y3, y4⟩ := BP10.out.five
    obtain ⟨⟨u0, u1, u2, u3, u4⟩, v0, v1, v2, v3, v4⟩ := BQ10.out.five
    have zp10 := BP10.out.lt
    have zq10 := BQ10.out.lt
    go_wp2_with fail
    refine (rnew_any q _).mono ?_
    rintro e w11 ⟨rfl, k11⟩
    clear x0 x1 x2 x3 x4 y0 y1 y2 y3 y4 u0 u1 u2 u3 u4 v0 v1 v2 v3 v4
    have BP11 := hide ((BP10.out.alloc (.cells #[Value.slice none 0 0, .slice none 0 0, .int .i64 rm, .bool false, .int .i64 am] 24)).below k11 (BP10.out.alloc (.cells #[Value.slice none 0 0, .slice none 0 0, .int .i64 rm, .bool false, .int .i64 am] 24)).lt)
    have BQ11 := hide ((BQ10.out.alloc (.cells #[Value.slice none 0 0, .slice none 0 0, .int .i64 rm, .bool false, .int .i64 am] 24)).below k11 (BQ10.out.alloc (.cells #[Value.slice none 0 0, .slice none 0 0, .int .i64 rm, .bool false, .int .i64 am] 24)).lt)
    have CC11 := hide (below_more (CC10.out.alloc CC10.out.size (.cells #[Value.slice none 0 0, .slice none 0 0, .int .i64 rm, .bool false, .int .i64 am] 24)) (Nat.le_refl _) k11)
    have KS10 := hide (below_more ((Below.refl w10.heap.size w10).alloc (Nat.le_refl _) (.cells #[Value.slice none 0 0, .slice none 0 0, .int .i64 rm, .bool false, .int .i64 am] 24)) (Nat.le_refl _) k11)
    have BX10 := hide ((Blk.new w10 24 #[Value.slice none 0 0, .slice none 0 0, .int .i64 rm, .bool false, .int .i64 am]).below k11 (Blk.new w10 24 #[Value.slice none 0 0, .slice none 0 0, .int .i64 rm, .bool false, .int .i64 am]).lt)
    clear k11
    rw [HhN4.out]
    obtain ⟨⟨x0, x1, x2, x3, x4⟩, y0, y1, y2, y3, y4⟩ := BP11.out.five
    obtain ⟨⟨u0, u1, u2, u3, u4⟩, v0, v1, v2, v3, v4⟩ := BQ11.out.five
    have zp11 := BP11.out.lt
    have zq11 := BQ11.out.lt
    go_upto_region 12 with (fail)
    generalize hWF : w11.alloc (.cells #[Value.slice none 0 0, .slice none 0 0, .int .i64 rm, .bool false, .int .i64 am] 24) = wF
    have F11 : Hid (Below w11.heap.size w11 wF) := hide (by rw [← hWF]; exact (Below.refl w11.heap.size w11).alloc (Nat.le_refl _) _)
    have Y11 : Hid (Blk wF w11.heap.size 24 #[Value.slice none 0 0, .slice none 0 0, .int .i64 rm, .bool false, .int .i64 am]) := hide (by rw [← hWF]; exact Blk.new w11 24 _)
    clear hWF x0 x1 x2 x3 x4 y0 y1 y2 y3 y4 u0 u1 u2 u3 u4 v0 v1 v2 v3 v4
    have F10 := hide (below_more KS10.out (Nat.le_refl _) F11.out)
    have F9 := hide (below_more KS9.out (Nat.le_refl _) F10.out)
    have F8 := hide (below_more KS8.out (Nat.le_refl _) F9.out)
    have F7 := hide (below_more KS7.out (Nat.le_refl _) F8.out)
    have F6 := hide (below_more KS6.out (Nat.le_refl _) F7.out)
    have F5 := hide (below_more KS5.out (Nat.le_refl _) F6.out)
    have F4 := hide (below_more KS4.out (Nat.le_refl _) F5.out)
    have Y4 := hide (BX4.out.below F5.out BX4.out.lt)
    have Y5 := hide (BX5.out.below F6.out BX5.out.lt)
    have Y6 := hide (BX6.out.below F7.out BX6.out.lt)
    have Y7 := hide (BX7.out.below F8.out BX7.out.lt)
    have Y8 := hide (BX8.out.below F9.out BX8.out.lt)
    have Y9 := hide (BX9.out.below F10.out BX9.out.lt)
    have Y10 := hide (BX10.out.below F11.out BX10.out.lt)
    have T4 := hide (R4.out.below F4.out)
    have T5 := hide (R5.out.below F5.out)
    have T6 := hide (R6.out.below F6.out)
    have T7 := hide (R7.out.below F7.out)
    have T8 := hide (R8.out.below F8.out)
    have T9 := hide (R9.out.below F9.out)
    have T10 := hide (RdK.mk_ (w := wF) (A := none) (n := 0) (S := []) (B := none) (m := 0) (P := []) Reads.none_ Reads.none_)
    have YP := hide (BP11.out.below F11.out BP11.out.lt)
    have YQ := hide (BQ11.out.below F11.out BQ11.out.lt)
    have CF := hide (below_more CC11.out (Nat.le_refl _) F11.out)
    have TQ := hide (RR.out.below CF.out)
    have TD := hide (RD.out.below CF.out)
    have CW := hide (below_more KK.out (Nat.le_refl _) CF.out)
    clear RR RD CF hrB KK CC3 BX4 KS4 BX5 KS5 BX6 KS6 BX7 KS7 BX8 KS8 BX9 KS9 BX10 KS10 BP4 BQ4 CC4 zp4 zq4 BP5 BQ5 CC5 zp5 zq5 BP6 BQ6 CC6 zp6 zq6 BP7 BQ7 CC7 zp7 zq7 BP8 BQ8 CC8 zp8 zq8 BP9 BQ9 CC9 zp9 zq9 BP10 BQ10 CC10 zp10 zq10 BP11 BQ11 CC11 zp11 zq11 F4 F5 F6 F7 F8 F9 F10 F11 R4 R5 R6 R7 R8 R9 BP3 BQ3
    obtain ⟨⟨x0, x1, x2, x3, x4⟩, y0, y1, y2, y3, y4⟩ := Blk.five Y4.out
    obtain ⟨⟨u0, u1, u2, u3, u4⟩, v0, v1, v2, v3, v4⟩ := Blk.five Y5.out
    go_wp2_with fail
    refine (rsame_k T4.out T5.out _ _ _ _ _ _ _).mono ?_
    rintro e z0 ⟨rfl, kz⟩
    have D0 := hide kz
    clear kz x0 x1 x2 x3 x4 y0 y1 y2 y3 y4 u0 u1 u2 u3 u4 v0 v1 v2 v3 v4
    obtain ⟨⟨x0, x1, x2, x3, x4⟩, y0, y1, y2, y3, y4⟩ := Blk.five (Y6.out.below D0.out Y6.out.lt)
    obtain ⟨⟨u0, u1, u2, u3, u4⟩, v0, v1, v2, v3, v4⟩ := Blk.five (Y7.out.below D0.out Y7.out.lt)
    go_wp2_with fail
    refine (rsame_k (T6.out.below D0.out) (T7.out.below D0.out) _ _ _ _ _ _ _).mono ?_
    rintro e z1 ⟨rfl, kz⟩
    have D1 := hide (below_more D0.out (Nat.le_refl _) kz)
    clear kz x0 x1 x2 x3 x4 y0 y1 y2 y3 y4 u0 u1 u2 u3 u4 v0 v1 v2 v3 v4
    obtain ⟨⟨x0, x1, x2, x3, x4⟩, y0, y1, y2, y3, y4⟩ := Blk.five (Y8.out.below D1.out Y8.out.lt)
    obtain ⟨⟨u0, u1, u2, u3, u4⟩, v0, v1, v2, v3, v4⟩ := Blk.five (Y9.out.below D1.out Y9.out.lt)
    go_wp2_with fail
    refine (rsame_k (T8.out.below D1.out) (T9.out.below D1.out) _ _ _ _ _ _ _).mono ?_
    rintro e z2 ⟨rfl, kz⟩
    have D2 := hide (below_more D1.out (Nat.le_refl _) kz)
    clear kz x0 x1 x2 x3 x4 y0 y1 y2 y3 y4 u0 u1 u2 u3 u4 v0 v1 v2 v3 v4
    obtain ⟨⟨x0, x1, x2, x3, x4⟩, y0, y1, y2, y3, y4⟩ := Blk.five (Y10.out.below D2.out Y10.out.lt)
    obtain ⟨⟨u0, u1, u2, u3, u4⟩, v0, v1, v2, v3, v4⟩ := Blk.five (Y11.out.below D2.out Y11.out.lt)
    go_wp2_with fail
    refine (rsame_k (T10.out.below D2.out) (T10.out.below D2.out) _ _ _ _ _ _ _).mono ?_
    rintro e z3 ⟨rfl, kz⟩
    have D3 := hide (below_more D2.out (Nat.le_refl _) kz)
    clear kz x0 x1 x2 x3 x4 y0 y1 y2 y3 y4 u0 u1 u2 u3 u4 v0 v1 v2 v3 v4
    have ZP := hide (YP.out.below D3.out YP.out.lt)
    have ZQ := hide (YQ.out.below D3.out YQ.out.lt)
    have UQ := hide (TQ.out.below D3.out)
    have UD := hide (TD.out.below D3.out)
    have CZ := hide (below_more CW.out (Nat.le_refl _) D3.out)
    clear YP YQ TQ TD CW D0 D1 D2 D3 Y4 Y5 Y6 Y7 Y8 Y9 Y10 Y11 T4 T5 T6 T7 T8 T9 T10
    obtain ⟨⟨x0, x1, x2, x3, x4⟩, y0, y1, y2, y3, y4⟩ := ZP.out.five
    obtain ⟨⟨u0, u1, u2, u3, u4⟩, v0, v1, v2, v3, v4⟩ := ZQ.out.five
    go_upto_region 14 with (fail)
    clear x0 x1 x2 x3 x4 y0 y1 y2 y3 y4 u0 u1 u2 u3 u4 v0 v1 v2 v3 v4
    obtain ⟨cD, hcD⟩ : ∃ x, crD dead (okD s.length p.length room arm) = x := ⟨_, rfl⟩
    obtain ⟨cA, hcA⟩ : ∃ x, crA arm (okD s.length p.length room arm) = x := ⟨_, rfl⟩
    obtain ⟨cS, hcS⟩ : ∃ x, crS s p (okD s.length p.length room arm) q = x := ⟨_, rfl⟩
    obtain ⟨cP, hcP⟩ : ∃ x, crP p (okD s.length p.length room arm) = x := ⟨_, rfl⟩
    obtain ⟨R5, hR5⟩ : ∃ x, arA s.length p.length room arm q = x := ⟨_, rfl⟩
    obtain ⟨ok, hok⟩ : ∃ x, okD s.length p.length room arm = x := ⟨_, rfl⟩
    have allS : Hid (∀ V, Below z3.heap.size z3 V → (V.cell? ⟨w.heap.size, 0, none⟩ = some (.slice A s.length c) ∧ V.cell? ⟨w.heap.size, 1, none⟩ = some (.slice B p.length k) ∧ V.cell? ⟨w.heap.size, 2, none⟩ = some (.int .i64 room) ∧ V.cell? ⟨w.heap.size, 3, none⟩ = some (.bool dead) ∧ V.cell? ⟨w.heap.size, 4, none⟩ = some (.int .i64 arm) ∧ V.cell? ⟨gq, 0, none⟩ = some (.slice A9 s.length c9) ∧ V.cell? ⟨gq, 1, none⟩ = some (.slice B9 p.length k9) ∧ V.cell? ⟨gq, 2, none⟩ = some (.int .i64 room) ∧ V.cell? ⟨gq, 3, none⟩ = some (.bool dead) ∧ V.cell? ⟨gq, 4, none⟩ = some (.int .i64 arm))) := hide fun V h => by
      obtain ⟨a0, a1, a2, a3, a4⟩ := blk5b (ZP.out.below h ZP.out.lt)
      obtain ⟨b0, b1, b2, b3, b4⟩ := blk5b (ZQ.out.below h ZQ.out.lt)
      exact ⟨a0, a1, a2, a3, a4, b0, b1, b2, b3, b4⟩
    have XC : Hid (∀ V, Below z3.heap.size z3 V → Calls Try.prog 18 #[dv A9 s.length c9 B9 p.length k9 room dead arm, .int .i64 q] V (KRet V room cD cA cS cP)) := hide fun V h => crash_k (UQ.out.below h) c9 k9 room dead arm q (by omega) (by omega) cap8.out.1 cD cA cS cP hcD hcA hcS hcP
    have XR : Hid (∀ V, Below z3.heap.size z3 V → Calls Try.prog 19 #[dv A s.length c B p.length k room dead arm, .int .i64 q] V (KRet V room cD cA cS cP)) := hide fun V h => rcrash_k (UD.out.below h) c k room dead arm q (by omega) (by omega) hk cD cA cS cP hcD hcA hcS hcP
    have XA : Hid (∀ V, Below z3.heap.size z3 V → Calls Try.prog 20 #[dv A9 s.length c9 B9 p.length k9 room dead arm, .int .i64 q] V (KRet V room dead R5 s p)) := hide fun V h => arm_k (UQ.out.below h) c9 k9 room dead arm q (by omega) (by omega) R5 hR5
    have XB : Hid (∀ V, Calls Try.prog 21 #[dv A s.length c B p.length k room dead arm, .int .i64 q] V fun e w' => e = .returned (dv A s.length c B p.length k room dead R5) ∧ Below V.heap.size V w') := hide fun V => rarm_k c k room dead arm q (by omega) (by omega) R5 hR5
    have XK : Hid (∀ V, Calls Try.prog 22 #[dv A9 s.length c9 B9 p.length k9 room dead arm] V fun e w' => e = .returned (.bool ok) ∧ Below V.heap.size V w') := hide fun V => check_k c9 k9 room dead arm (by omega) (by omega) ok hok
    have XL : Hid (∀ V, Calls Try.prog 23 #[dv A s.length c B p.length k room dead arm] V fun e w' => e = .returned (.bool ok) ∧ Below V.heap.size V w') := hide fun V => rcheck_k c k room dead arm (by omega) (by omega) ok hok
    have XH : Hid (∀ V, Calls Try.prog 8 #[] V fun e w' => e = .returned (.bool true) ∧ Below V.heap.size V w') := hide fun V => heads_any V
    have XD : Hid (∀ V, Below z3.heap.size z3 V → RdK V A s.length s B p.length p) := hide fun V h => UD.out.below h
    have XQ : Hid (∀ V, Below z3.heap.size z3 V → RdK V A9 s.length s B9 p.length p) := hide fun V h => UQ.out.below h
    clear hcD hcA hcS hcP hR5 hok ZP ZQ UQ UD HhT HhR HhE HhP HhM HhE2 HhS2 HhP2 HhN2 HhM2 HhE3 HhS3 HhN3 HhN4
    have kW := hide ((Below.refl z3.heap.size z3).drew)
    go_region_held3 (fun W => W.cell? ⟨w.heap.size, 0, none⟩ = some (.slice A s.length c) ∧ W.cell? ⟨w.heap.size, 1, none⟩ = some (.slice B p.length k) ∧ W.cell? ⟨w.heap.size, 2, none⟩ = some (.int .i64 room) ∧ W.cell? ⟨w.heap.size, 3, none⟩ = some (.bool dead) ∧ W.cell? ⟨w.heap.size, 4, none⟩ = some (.int .i64 arm) ∧ W.cell? ⟨gq, 0, none⟩ = some (.slice A9 s.length c9) ∧ W.cell? ⟨gq, 1, none⟩ = some (.slice B9 p.length k9) ∧ W.cell? ⟨gq, 2, none⟩ = some (.int .i64 room) ∧ W.cell? ⟨gq, 3, none⟩ = some (.bool dead) ∧ W.cell? ⟨gq, 4, none⟩ = some (.int .i64 arm))
      (with_reducible exact allS.out _ kW.out)
      (first
        | (go_at_call 18; with_reducible refine (XC.out _ kW.out).mono ?_
           rintro e wx ⟨A30, n30, c30, B30, m30, k30, rfl, f30, kx⟩
           have F30 := hide f30
           first
            | (have G9 := hide (F31.out.below kx)
               clear F31
               have F31 := hide G9.out
               clear G9)
            | skip
           clear f30
           have kW := hide (below_more kW.out (Nat.le_refl _) kx)
           clear kx)
        | (go_at_call 19; with_reducible refine (XR.out _ kW.out).mono ?_
           rintro e wx ⟨A31, n31, c31, B31, m31, k31, rfl, f31, kx⟩
           have F31 := hide f31
           first
            | (have G9 := hide (F30.out.below kx)
               clear F30
               have F30 := hide G9.out
               clear G9)
            | skip
           clear f31
           have kW := hide (below_more kW.out (Nat.le_refl _) kx)
           clear kx)
        | (go_at_call 20; with_reducible refine (XA.out _ kW.out).mono ?_
           rintro e wx ⟨A40, n40, c40, B40, m40, k40, rfl, f40, kx⟩
           have F40 := hide f40
           first
            | (have G9 := hide (F41.out.below kx)
               clear F41
               have F41 := hide G9.out
               clear G9)
            | skip
           clear f40
           have kW := hide (below_more kW.out (Nat.le_refl _) kx)
           clear kx)
        | (go_at_call 21; with_reducible refine (XB.out _).mono ?_
           rintro e wx ⟨rfl, kx⟩
           first
            | (have G9 := hide (F40.out.below kx)
               clear F40
               have F40 := hide G9.out
               clear G9)
            | skip
           have kW := hide (below_more kW.out (Nat.le_refl _) kx)
           clear kx)
        | (go_at_call 17; with_reducible refine (rsame_k (XQ.out _ kW.out) (XD.out _ kW.out) _ _ _ _ _ _ _).mono ?_
           rintro e wx ⟨rfl, kx⟩
           have kW := hide (below_more kW.out (Nat.le_refl _) kx)
           clear kx)
        | (go_at_call 17; with_reducible refine (rsame_k F40.out (XD.out _ kW.out) _ _ _ _ _ _ _).mono ?_
           rintro e wx ⟨rfl, kx⟩
           have kW := hide (below_more kW.out (Nat.le_refl _) kx)
           clear kx)
        | (go_at_call 17; with_reducible refine (rsame_k F30.out F31.out _ _ _ _ _ _ _).mono ?_
           rintro e wx ⟨rfl, kx⟩
           have kW := hide (below_more kW.out (Nat.le_refl _) kx)
           clear kx)
        | (go_at_call 22; with_reducible refine (XK.out _).mono ?_
           rintro e wx ⟨rfl, kx⟩
           have kW := hide (below_more kW.out (Nat.le_refl _) kx)
           clear kx)
        | (go_at_call 23; with_reducible refine (XL.out _).mono ?_
           rintro e wx ⟨rfl, kx⟩
           have kW := hide (below_more kW.out (Nat.le_refl _) kx)
           clear kx)
        | (go_at_call 8; with_reducible refine (XH.out _).mono ?_
           rintro e wx ⟨rfl, kx⟩
           have kW := hide (below_more kW.out (Nat.le_refl _) kx)
           clear kx))
    all_goals
      go_wp2
      go_ret
      exact ⟨rfl, below_more CZ.out (Nat.le_refl _) kW.out⟩
#print axioms does_law
end Go.Proofs.Ythoaocjeladbkaa
