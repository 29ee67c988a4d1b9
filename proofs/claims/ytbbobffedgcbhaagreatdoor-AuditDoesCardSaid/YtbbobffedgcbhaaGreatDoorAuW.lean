/- audit.Write: a record is written. -/
import Derived.Test.YtbbobffedgcbhaaGreatDoorAuM
import Derived.Test.YtbbobffedgcbhaaGreatDoorAuO
namespace Go.Proofs.YtbbobffedgcbhaaGreatDoor
open Go.RowKit
set_option linter.unusedVariables false
theorem Blk.kept {w w' : World} {g b : Nat} {t : TypeId} {cs : Array Value} (h : Blk w b t cs) (hk : ∀ b, b < w.heap.size → b ≠ g → w'.heap[b]? = w.heap[b]?) (hne : b ≠ g) : Blk w' b t cs := (hk b h.lt hne).trans h
theorem Rd.kept {w w' : World} {g : Nat} {A : Option Addr} {n : Nat} {bs : LB} (h : Rd w A n bs) (hk : Below g w w') (hg : g ≤ w'.heap.size) (hl : ∀ ad, A = some ad → 0 < n → ad.block < g) : Rd w' A n bs := by
  refine ⟨h.1, fun h0 => ?_⟩
  obtain ⟨ad, e, hb, hc⟩ := h.2 h0
  have hlt := hl ad e h0
  refine ⟨ad, e, by omega, fun j u hj => ?_⟩
  rw [hk.cell (by rw [block_of_add]; exact hlt)]
  exact hc j u hj
theorem own_kept {w w' : World} {B g : Nat} {t : TypeId} {size n : Nat} {v : Value} {xs : List Value} (h : w.ownsRow B t size v n xs) (hk : ∀ b, b < w.heap.size → b ≠ g → w'.heap[b]? = w.heap[b]?) (hne : ∀ b, v.ownBlock = some b → b ≠ g) : w'.ownsRow B t size v n xs := by
  refine ⟨h.1, ?_⟩
  rcases h.2 with h0 | ⟨b, cap, cur, e, hb, hh, r⟩
  · exact .inl h0
  · exact .inr ⟨b, cap, cur, e, hb, (hk b (Blk.lt hh) (hne b (by rw [e]; rfl))).trans hh, r⟩
theorem own15 {w : World} {B : Nat} {t : TypeId} {size n : Nat} {v : Value} {xs : List Value} (h : w.ownsRow B t size v n xs) (a b : Nat) (ha : a < B) (hb : b < B) (u0 u1 u2 u3 u4 u5 u6 u7 u8 u9 u10 u11 u12 u13 u14 : Value) : (((((((((((((((w.setCell ⟨a, 0, none⟩ u0).setCell ⟨a, 1, none⟩ u1).setCell ⟨a, 2, none⟩ u2).setCell ⟨a, 3, none⟩ u3).setCell ⟨a, 4, none⟩ u4).setCell ⟨a, 5, none⟩ u5).setCell ⟨a, 6, none⟩ u6).setCell ⟨b, 0, none⟩ u7).setCell ⟨b, 1, none⟩ u8).setCell ⟨b, 2, none⟩ u9).setCell ⟨b, 3, none⟩ u10).setCell ⟨b, 4, none⟩ u11).setCell ⟨b, 5, none⟩ u12).setCell ⟨b, 6, none⟩ u13).setCell ⟨b, 7, none⟩ u14).ownsRow B t size v n xs := (own_far (p := ⟨b, 7, none⟩) (own_far (p := ⟨b, 6, none⟩) (own_far (p := ⟨b, 5, none⟩) (own_far (p := ⟨b, 4, none⟩) (own_far (p := ⟨b, 3, none⟩) (own_far (p := ⟨b, 2, none⟩) (own_far (p := ⟨b, 1, none⟩) (own_far (p := ⟨b, 0, none⟩) (own_far (p := ⟨a, 6, none⟩) (own_far (p := ⟨a, 5, none⟩) (own_far (p := ⟨a, 4, none⟩) (own_far (p := ⟨a, 3, none⟩) (own_far (p := ⟨a, 2, none⟩) (own_far (p := ⟨a, 1, none⟩) (own_far (p := ⟨a, 0, none⟩) h ha u0) ha u1) ha u2) ha u3) ha u4) ha u5) ha u6) hb u7) hb u8) hb u9) hb u10) hb u11) hb u12) hb u13) hb u14)
theorem below15 {w w0 : World} {B : Nat} (h : Below B w0 w) (a b : Nat) (ha : B ≤ a) (hb : B ≤ b) (u0 u1 u2 u3 u4 u5 u6 u7 u8 u9 u10 u11 u12 u13 u14 : Value) : Below B w0 (((((((((((((((w.setCell ⟨a, 0, none⟩ u0).setCell ⟨a, 1, none⟩ u1).setCell ⟨a, 2, none⟩ u2).setCell ⟨a, 3, none⟩ u3).setCell ⟨a, 4, none⟩ u4).setCell ⟨a, 5, none⟩ u5).setCell ⟨a, 6, none⟩ u6).setCell ⟨b, 0, none⟩ u7).setCell ⟨b, 1, none⟩ u8).setCell ⟨b, 2, none⟩ u9).setCell ⟨b, 3, none⟩ u10).setCell ⟨b, 4, none⟩ u11).setCell ⟨b, 5, none⟩ u12).setCell ⟨b, 6, none⟩ u13).setCell ⟨b, 7, none⟩ u14) := by
  exact (((((((((((((((h.setCell (p := ⟨a, 0, none⟩) ha u0).setCell (p := ⟨a, 1, none⟩) ha u1).setCell (p := ⟨a, 2, none⟩) ha u2).setCell (p := ⟨a, 3, none⟩) ha u3).setCell (p := ⟨a, 4, none⟩) ha u4).setCell (p := ⟨a, 5, none⟩) ha u5).setCell (p := ⟨a, 6, none⟩) ha u6).setCell (p := ⟨b, 0, none⟩) hb u7).setCell (p := ⟨b, 1, none⟩) hb u8).setCell (p := ⟨b, 2, none⟩) hb u9).setCell (p := ⟨b, 3, none⟩) hb u10).setCell (p := ⟨b, 4, none⟩) hb u11).setCell (p := ⟨b, 5, none⟩) hb u12).setCell (p := ⟨b, 6, none⟩) hb u13).setCell (p := ⟨b, 7, none⟩) hb u14)
theorem far7 {w : World} {a b : Nat} {t : TypeId} {cs : Array Value} (h : Blk w b t cs) (hne : b ≠ a) (u0 u1 u2 u3 u4 u5 u6 : Value) : Blk (((((((w.setCell ⟨a, 0, none⟩ u0).setCell ⟨a, 1, none⟩ u1).setCell ⟨a, 2, none⟩ u2).setCell ⟨a, 3, none⟩ u3).setCell ⟨a, 4, none⟩ u4).setCell ⟨a, 5, none⟩ u5).setCell ⟨a, 6, none⟩ u6) b t cs := (Blk.far (Blk.far (Blk.far (Blk.far (Blk.far (Blk.far (Blk.far h (p := ⟨a, 0, none⟩) hne u0) (p := ⟨a, 1, none⟩) hne u1) (p := ⟨a, 2, none⟩) hne u2) (p := ⟨a, 3, none⟩) hne u3) (p := ⟨a, 4, none⟩) hne u4) (p := ⟨a, 5, none⟩) hne u5) (p := ⟨a, 6, none⟩) hne u6)
/-- A record was written. -/
def WOk (S P YB : LB) (room : Int) (T : Bool) (R : Int) (q : Nat) (stop : Bool) (w : World) (e : Ending) (w' : World) : Prop := ∃ A n c B m k H hc, e = .returned (.tuple #[.agg #[.slice A n c, .slice B m k, .int .i64 room, .bool T, .int .i64 R, .int .i64 ((q : Int) + 1), .slice H 32 hc, .bool stop], .int .i64 0]) ∧ Rd w' A n S ∧ n ≤ c ∧ Rd w' B m P ∧ m ≤ k ∧ Rd w' H 32 YB ∧ 32 ≤ hc ∧ Below w.heap.size w w'
theorem apA_le {n m : Nat} {room arm : Int} {dead : Bool} (h : arm ≤ 9223372036854775807) : Dk.apA n m room dead arm ≤ 9223372036854775807 := by
  unfold Dk.apA Dk.pwA
  split
  · exact h
  · split <;> omega
set_option maxRecDepth 100000 in
set_option maxHeartbeats 32000000 in
theorem awrite_ok (s p hash : LB) (room arm : Int) (dead stop : Bool) (q : Nat) (r : Rec) (A : Option Addr) (n c : Nat) (B : Option Addr) (m k : Nat) (H : Option Addr) (hc : Nat) (RA : Option Addr) (rn rc : Nat) (w : World) (hI : LogIn w ⟨s, p, room, dead, arm, (q : Int), hash, stop⟩ A n c B m k H 32 hc) (hok : okL ⟨s, p, room, dead, arm, (q : Int), hash, stop⟩ = true) (hst : stop = false) (hV : validP { r with seq := (q : Int) } = true) (hD : Rd w RA rn r.dig) (ha : arm ≤ 9223372036854775807) (hq : q ≤ 9000) (hE1 : Dk.apE s.length p.length room dead arm (entP hash { r with seq := (q : Int) }).length = 0) (hE2 : Dk.syE s.length (Dk.apP s.length p.length p room dead arm (entP hash { r with seq := (q : Int) })).length room (Dk.apD s.length p.length room dead arm) (Dk.apA s.length p.length room dead arm) = 0) (hS : Std w) (hT : Tabs w) :
    Calls Tryz.prog 8 #[.agg #[Value.slice A n c, .slice B m k, .int .i64 room, .bool dead, .int .i64 arm, .int .i64 (q : Int), .slice H 32 hc, .bool stop], Rec.v r RA rn rc] w (WOk (s ++ (Dk.apP s.length p.length p room dead arm (entP hash { r with seq := (q : Int) }))) [] (digP hash (encP { r with seq := (q : Int) })) room (Dk.apD s.length (Dk.apP s.length p.length p room dead arm (entP hash { r with seq := (q : Int) })).length room (Dk.apD s.length p.length room dead arm) (Dk.apA s.length p.length room dead arm)) (Dk.apA s.length (Dk.apP s.length p.length p room dead arm (entP hash { r with seq := (q : Int) })).length room (Dk.apD s.length p.length room dead arm) (Dk.apA s.length p.length room dead arm)) q stop w) := by
  obtain ⟨sq, op, pa, pb, g, al⟩ := r
  dsimp only at hV hD hE1 hE2
  unfold Rec.v
  dsimp only
  have XG := hide (fun W (hW : Below w.heap.size w W) => clog_any ⟨s, p, room, dead, arm, (q : Int), hash, stop⟩ A n c B m k H 32 hc W (hI.below hW))
  have XP := hide (fun W (hW : Below w.heap.size w W) => aprep_ok ⟨s, p, room, dead, arm, (q : Int), hash, stop⟩ ⟨(q : Int), op, pa, pb, g, al⟩ A n c B m k H 32 hc RA rn rc W (hI.below hW) hok hst hV (rb hD hW) (hS.below hW) (hT.below hW))
  have hes := enc_small hV
  obtain ⟨EN, hEN⟩ : ∃ x, 2 + (encP ⟨(q : Int), op, pa, pb, g, al⟩).length + 32 = x := ⟨_, rfl⟩
  obtain ⟨XB, hXB⟩ : ∃ x, entP hash ⟨(q : Int), op, pa, pb, g, al⟩ = x := ⟨_, rfl⟩
  obtain ⟨YB, hYB⟩ : ∃ x, digP hash (encP ⟨(q : Int), op, pa, pb, g, al⟩) = x := ⟨_, rfl⟩
  unfold lv Rec.v at XP
  unfold lv at XG
  dsimp only at XP XG
  rw [hEN, hXB, hYB] at XP
  rw [hXB] at hE1 hE2 ⊢
  rw [hYB]
  obtain ⟨T1, hT1⟩ : ∃ T, Dk.apD s.length p.length room dead arm = T := ⟨_, rfl⟩
  obtain ⟨R1, hR1⟩ : ∃ T, Dk.apA s.length p.length room dead arm = T := ⟨_, rfl⟩
  obtain ⟨P1, hP1⟩ : ∃ T, Dk.apP s.length p.length p room dead arm XB = T := ⟨_, rfl⟩
  rw [hT1, hR1, hP1] at hE2 ⊢
  obtain ⟨T2, hT2⟩ : ∃ T, Dk.apD s.length P1.length room T1 R1 = T := ⟨_, rfl⟩
  obtain ⟨R2, hR2⟩ : ∃ T, Dk.apA s.length P1.length room T1 R1 = T := ⟨_, rfl⟩
  rw [hT2, hR2]
  have HT1 := hide hT1
  have HR1' := hide hR1
  have HP1' := hide hP1
  have HT2 := hide hT2
  have HR2' := hide hR2
  have HE1 := hide hE1
  have HE2 := hide hE2
  clear hT1 hR1 hP1 hT2 hR2 hE1 hE2
  have HEN := hide (show EN ≤ 600 by omega)
  have hen : EN ≤ 600 := by omega
  have HST := hide hst
  clear hEN hXB hYB hes hst
  have hb3 : Below w.heap.size w (((w.alloc (.cells #[Value.slice A n c, .slice B m k, .int .i64 room, .bool dead, .int .i64 arm, .int .i64 (q : Int), .slice H 32 hc, .bool stop] 26)).alloc (.cells #[Value.int .i64 sq, .int .i64 op, .string ⟨pa.toArray⟩, .string ⟨pb.toArray⟩, .slice RA rn rc, .bool al] 28)).alloc (.cells #[Value.slice none 0 0, .slice none 0 0, .int .i64 0, .bool false, .int .i64 0, .int .i64 0, .slice none 0 0, .bool false] 26)) := ((bl_alloc w _).alloc (by simp) _).alloc (by simp; omega) _
  obtain ⟨W0, hW0⟩ : ∃ W, (((w.alloc (.cells #[Value.slice A n c, .slice B m k, .int .i64 room, .bool dead, .int .i64 arm, .int .i64 (q : Int), .slice H 32 hc, .bool stop] 26)).alloc (.cells #[Value.int .i64 sq, .int .i64 op, .string ⟨pa.toArray⟩, .string ⟨pb.toArray⟩, .slice RA rn rc, .bool al] 28)).alloc (.cells #[Value.slice none 0 0, .slice none 0 0, .int .i64 0, .bool false, .int .i64 0, .int .i64 0, .slice none 0 0, .bool false] 26)) = W := ⟨_, rfl⟩
  have HB0 : Hid (Below w.heap.size w W0) := hide (by rw [← hW0]; exact hb3)
  have HL0 : Hid (Blk W0 w.heap.size 26 #[Value.slice A n c, .slice B m k, .int .i64 room, .bool dead, .int .i64 arm, .int .i64 (q : Int), .slice H 32 hc, .bool stop]) := hide (by rw [← hW0]; exact ((Blk.new w 26 #[Value.slice A n c, .slice B m k, .int .i64 room, .bool dead, .int .i64 arm, .int .i64 (q : Int), .slice H 32 hc, .bool stop]).alloc _).alloc _)
  have HR0 : Hid (Blk W0 (w.heap.size + 1) 28 #[Value.int .i64 sq, .int .i64 op, .string ⟨pa.toArray⟩, .string ⟨pb.toArray⟩, .slice RA rn rc, .bool al]) := hide (by
    rw [← hW0]
    have h := (Blk.new (w.alloc (.cells #[Value.slice A n c, .slice B m k, .int .i64 room, .bool dead, .int .i64 arm, .int .i64 (q : Int), .slice H 32 hc, .bool stop] 26)) 28 #[Value.int .i64 sq, .int .i64 op, .string ⟨pa.toArray⟩, .string ⟨pb.toArray⟩, .slice RA rn rc, .bool al]).alloc (.cells #[Value.slice none 0 0, .slice none 0 0, .int .i64 0, .bool false, .int .i64 0, .int .i64 0, .slice none 0 0, .bool false] 26)
    simpa only [World.size_alloc] using h)
  have HZ0 : Hid (Blk W0 (w.heap.size + 2) 26 #[Value.slice none 0 0, .slice none 0 0, .int .i64 0, .bool false, .int .i64 0, .int .i64 0, .slice none 0 0, .bool false]) := hide (by
    rw [← hW0]
    have h := Blk.new ((w.alloc (.cells #[Value.slice A n c, .slice B m k, .int .i64 room, .bool dead, .int .i64 arm, .int .i64 (q : Int), .slice H 32 hc, .bool stop] 26)).alloc (.cells #[Value.int .i64 sq, .int .i64 op, .string ⟨pa.toArray⟩, .string ⟨pb.toArray⟩, .slice RA rn rc, .bool al] 28)) 26 #[Value.slice none 0 0, .slice none 0 0, .int .i64 0, .bool false, .int .i64 0, .int .i64 0, .slice none 0 0, .bool false]
    simpa only [World.size_alloc] using h)
  clear hb3
  obtain ⟨⟨x0, x1, x2, x3, x4, x5, x6, x7⟩, xz0, xz1, xz2, xz3, xz4, xz5, xz6, xz7⟩ := blk8 HL0.out
  have xl := HL0.out.lt
  go_enter Tryz.func8, Tryz.ntmps8
  go_wp2_with fail
  refine (XG.out W0 HB0.out).mono ?_
  rintro e1 w1 ⟨A1, c1, B1, k1, H1, h1, rfl, g1, g2, g3, g4⟩
  clear hW0 x0 x1 x2 x3 x4 x5 x6 x7 xz0 xz1 xz2 xz3 xz4 xz5 xz6 xz7 xl
  have hw0 : w.heap.size + 2 < W0.heap.size := HZ0.out.lt
  have hw01 := g4.size
  have HB1 := hide (below_more HB0.out (Nat.le_refl _) g4)
  have HL1 := hide (HL0.out.below g4 HL0.out.lt)
  have HR1 := hide (HR0.out.below g4 HR0.out.lt)
  have HZ1 := hide (HZ0.out.below g4 HZ0.out.lt)
  obtain ⟨W2, hW2⟩ : ∃ W, (w1.setCell ⟨w.heap.size + 1, 0, none⟩ (.int .i64 (q : Int))).alloc (.cells #[Value.slice A1 n c1, .slice B1 m k1, .int .i64 room, .bool dead, .int .i64 arm, .int .i64 (q : Int), .slice H1 32 h1, .bool stop] 26) = W := ⟨_, rfl⟩
  have hbs : Below w.heap.size w (w1.setCell ⟨w.heap.size + 1, 0, none⟩ (.int .i64 (q : Int))) := HB1.out.setCell (Nat.le_succ _) _
  have hba := bl_alloc (w1.setCell ⟨w.heap.size + 1, 0, none⟩ (.int .i64 (q : Int))) (.cells #[Value.slice A1 n c1, .slice B1 m k1, .int .i64 room, .bool dead, .int .i64 arm, .int .i64 (q : Int), .slice H1 32 h1, .bool stop] 26)
  have HB2 : Hid (Below w.heap.size w W2) := hide (by rw [← hW2]; exact below_more hbs (Nat.le_refl _) hba)
  have hl2 := (HL1.out.far (p := ⟨w.heap.size + 1, 0, none⟩) (by show w.heap.size ≠ w.heap.size + 1; omega) (.int .i64 (q : Int)))
  have hr2 : Blk (w1.setCell ⟨w.heap.size + 1, 0, none⟩ (.int .i64 (q : Int))) (w.heap.size + 1) 28 #[Value.int .i64 (q : Int), .int .i64 op, .string ⟨pa.toArray⟩, .string ⟨pb.toArray⟩, .slice RA rn rc, .bool al] := HR1.out.set_ 0 _
  have hz2 := (HZ1.out.far (p := ⟨w.heap.size + 1, 0, none⟩) (by show w.heap.size + 2 ≠ w.heap.size + 1; omega) (.int .i64 (q : Int)))
  have HL2 : Hid (Blk W2 w.heap.size 26 #[Value.slice A n c, .slice B m k, .int .i64 room, .bool dead, .int .i64 arm, .int .i64 (q : Int), .slice H 32 hc, .bool stop]) := hide (by rw [← hW2]; exact hl2.below hba hl2.lt)
  have HR2 : Hid (Blk W2 (w.heap.size + 1) 28 #[Value.int .i64 (q : Int), .int .i64 op, .string ⟨pa.toArray⟩, .string ⟨pb.toArray⟩, .slice RA rn rc, .bool al]) := hide (by rw [← hW2]; exact hr2.below hba hr2.lt)
  have HZ2 : Hid (Blk W2 (w.heap.size + 2) 26 #[Value.slice none 0 0, .slice none 0 0, .int .i64 0, .bool false, .int .i64 0, .int .i64 0, .slice none 0 0, .bool false]) := hide (by rw [← hW2]; exact hz2.below hba hz2.lt)
  have HO2 : Hid (Blk W2 w1.heap.size 26 #[Value.slice A1 n c1, .slice B1 m k1, .int .i64 room, .bool dead, .int .i64 arm, .int .i64 (q : Int), .slice H1 32 h1, .bool stop]) := hide (by
    rw [← hW2]
    have h := Blk.new (w1.setCell ⟨w.heap.size + 1, 0, none⟩ (.int .i64 (q : Int))) 26 #[Value.slice A1 n c1, .slice B1 m k1, .int .i64 room, .bool dead, .int .i64 arm, .int .i64 (q : Int), .slice H1 32 h1, .bool stop]
    simpa only [World.size_setCell] using h)
  have HS2 : Hid (OwB W0.heap.size W2 A1 n c1 s) := hide (by rw [← hW2]; exact OwB.below (own_far g1 (by show w.heap.size + 1 < W0.heap.size; omega) _) hba)
  have HP2 : Hid (OwB W0.heap.size W2 B1 m k1 p) := hide (by rw [← hW2]; exact OwB.below (own_far g2 (by show w.heap.size + 1 < W0.heap.size; omega) _) hba)
  obtain ⟨⟨x0, x1, x2, x3, x4, x5, x6, x7⟩, xz0, xz1, xz2, xz3, xz4, xz5, xz6, xz7⟩ := blk8 HL1.out
  have xl := HL1.out.lt
  obtain ⟨⟨y0, y1, y2, y3, y4, y5⟩, yz0, yz1, yz2, yz3, yz4, yz5⟩ := blk6 HR1.out
  have yl := HR1.out.lt
  obtain ⟨⟨v0, v1, v2, v3, v4, v5, v6, v7⟩, vz0, vz1, vz2, vz3, vz4, vz5, vz6, vz7⟩ := blk8 HL2.out
  have vl := HL2.out.lt
  obtain ⟨⟨t0, t1, t2, t3, t4, t5⟩, tz0, tz1, tz2, tz3, tz4, tz5⟩ := blk6 HR2.out
  have tl := HR2.out.lt
  clear hbs hba hl2 hr2 hz2
  go_wp2_with fail
  refine (XP.out W2 HB2.out).mono ?_
  rintro e2 w3 ⟨X, x, cx, Y, cy, rfl, u1, u2, u3, u4⟩
  clear hW2 x0 x1 x2 x3 x4 x5 x6 x7 xz0 xz1 xz2 xz3 xz4 xz5 xz6 xz7 xl y0 y1 y2 y3 y4 y5 yz0 yz1 yz2 yz3 yz4 yz5 yl v0 v1 v2 v3 v4 v5 v6 v7 vz0 vz1 vz2 vz3 vz4 vz5 vz6 vz7 vl t0 t1 t2 t3 t4 t5 tz0 tz1 tz2 tz3 tz4 tz5 tl
  have HW2S := hide HO2.out.lt
  have HB3 := hide (below_more HB2.out (Nat.le_refl _) u4)
  have HL3 := hide (HL2.out.below u4 HL2.out.lt)
  have HZ3 := hide (HZ2.out.below u4 HZ2.out.lt)
  have HO3 := hide (HO2.out.below u4 HO2.out.lt)
  have HX3 := hide u2
  have HS3 := hide (HS2.out.below u4)
  have HP3 := hide (HP2.out.below u4)
  have HY3 := hide u3
  have HN3 := hide u1
  have u4s := u4.size
  clear u1 u2 u3 u4 HL2 HR2 HZ2 HO2 HL1 HR1 HZ1 HL0 HR0 HZ0
  obtain ⟨⟨x0, x1, x2, x3, x4, x5, x6, x7⟩, xz0, xz1, xz2, xz3, xz4, xz5, xz6, xz7⟩ := blk8 HO3.out
  have xl := HO3.out.lt
  obtain ⟨W4, hW4⟩ : ∃ W, (w3.alloc (.cells #[Value.slice A1 n c1, .slice B1 m k1, .int .i64 room, .bool dead, .int .i64 arm, .slice X x cx] 63)).alloc (.cells #[.func (.func 28) #[.pointer (some ⟨w3.heap.size, 0, none⟩)] #[], .func (.func 29) #[.pointer (some ⟨w3.heap.size, 0, none⟩)] #[]] 64) = W := ⟨_, rfl⟩
  have hb4 : Below w3.heap.size w3 W4 := by rw [← hW4]; exact (bl_alloc w3 _).alloc (by simp) _
  have HB4 := hide (below_more HB3.out (Nat.le_refl _) hb4)
  have HL4 := hide (HL3.out.below hb4 HL3.out.lt)
  have HZ4 := hide (HZ3.out.below hb4 HZ3.out.lt)
  have HO4 := hide (HO3.out.below hb4 HO3.out.lt)
  have HM4 : Hid (Blk W4 w3.heap.size 63 #[Value.slice A1 n c1, .slice B1 m k1, .int .i64 room, .bool dead, .int .i64 arm, .slice X x cx]) := hide (by rw [← hW4]; exact (Blk.new w3 63 #[Value.slice A1 n c1, .slice B1 m k1, .int .i64 room, .bool dead, .int .i64 arm, .slice X x cx]).alloc _)
  have HY4 := hide (HY3.out.below hb4)
  have hyb : ∀ b, (Value.slice Y 32 cy).ownBlock = some b → b ≠ w3.heap.size := fun b hb h => by have := (HY3.out.lt b hb).2; omega
  have HF4 : Hid (Blk W4 (w3.heap.size + 1) 64 #[.func (.func 28) #[.pointer (some ⟨w3.heap.size, 0, none⟩)] #[], .func (.func 29) #[.pointer (some ⟨w3.heap.size, 0, none⟩)] #[]]) := hide (by
    rw [← hW4]
    have h := Blk.new (w3.alloc (.cells #[Value.slice A1 n c1, .slice B1 m k1, .int .i64 room, .bool dead, .int .i64 arm, .slice X x cx] 63)) 64 #[.func (.func 28) #[.pointer (some ⟨w3.heap.size, 0, none⟩)] #[], .func (.func 29) #[.pointer (some ⟨w3.heap.size, 0, none⟩)] #[]]
    simpa only [World.size_alloc] using h)
  have XA := hide (add_step w3.heap.size s p XB room dead arm A1 n c1 B1 m k1 X x cx W4 HM4.out (rb HS3.out.rd hb4) (rb HP3.out.rd hb4) (rb HX3.out.rd hb4) (by have := hI.sn; omega) (by have := hI.sm; omega) (by have h1 := HN3.out; have h2 := HEN.out; omega) ha)
  unfold StepEnd at XA
  rw [HE1.out, HT1.out, HR1'.out, HP1'.out] at XA
  go_wp2_with fail
  clear hW4 x0 x1 x2 x3 x4 x5 x6 x7 xz0 xz1 xz2 xz3 xz4 xz5 xz6 xz7 xl
  obtain ⟨f0, f1, f0z, f1z⟩ := HF4.out.two
  have fl := HF4.out.lt
  refine wp_loop_rounds 3 ?_
  rw [rounds_succ]
  go_wp2_with fail
  refine XA.out.mono ?_
  rintro e3 w5 ⟨A5, n5, c5, B5, m5, k5, rfl, v1, v2, v3, v4, v5⟩
  have hgw : w.heap.size + 2 < w3.heap.size := HZ3.out.lt
  have hgo : w1.heap.size < w3.heap.size := HO3.out.lt
  have HL5 := hide (HL4.out.below v4 (by have := HL3.out.lt; exact this))
  have HZ5 := hide (HZ4.out.below v4 hgw)
  have HO5 := hide (HO4.out.below v4 hgo)
  have HF5 := hide (HF4.out.kept v5 (by omega))
  have HM5 := hide v1
  have HY5 := hide (own_kept HY4.out v5 hyb)
  have hg5 : w3.heap.size < w5.heap.size := v1.lt
  have HS5 := hide v2.rd
  have HB5 := hide (Below.trans HB4.out (v4.mono (by have := HL3.out.lt; omega)))
  have hn5 : n5 ≤ 9000 := by have h1 := v2.rd.len; have h2 := hI.rs.len; have h3 := hI.sn; dsimp only at h2; omega
  have hm5 : m5 ≤ 10000 := by
    have h1 := v3.rd.len
    have h2 := hI.rp.len
    have h3 := hI.sm
    have h4 := HN3.out
    have h5 := HEN.out
    have h6 := HX3.out.rd.len
    dsimp only at h2
    have h7 : (Dk.apP s.length p.length p room dead arm XB).length ≤ p.length + XB.length := by
      unfold Dk.apP
      split
      · rw [List.length_append]; exact Nat.le_refl _
      · omega
    rw [HP1'.out] at h7
    omega
  have XS := hide (sync_step w3.heap.size s P1 room T1 R1 A5 n5 c5 B5 m5 k5 X x cx w5 v1 v2.rd v3.rd (by omega) hm5 (by rw [← HR1'.out]; exact apA_le ha))
  unfold StepEnd at XS
  rw [HE2.out, HT2.out, HR2'.out, show Dk.syS s P1 0 = s ++ P1 from if_pos rfl, show Dk.syP P1 0 = [] from if_pos rfl] at XS
  clear v1 v2 v3 v4 v5 f0 f1 f0z f1z fl XA HF4 HM4 HO4 HZ4 HL4
  obtain ⟨f0, f1, f0z, f1z⟩ := HF5.out.two
  have fl := HF5.out.lt
  go_wp2_with fail
  rw [rounds_succ]
  go_wp2_with fail
  refine XS.out.mono ?_
  rintro e4 w6 ⟨A6, n6, c6, B6, m6, k6, rfl, v1, v2, v3, v4, v5⟩
  have HL6 := hide (HL5.out.below v4 (by have := HL3.out.lt; exact this))
  have HZ6 := hide (HZ5.out.below v4 hgw)
  have HO6 := hide (HO5.out.below v4 hgo)
  have HF6 := hide (HF5.out.kept v5 (by omega))
  have HM6 := hide v1
  have HY6 : Hid (w6.ownsRow W2.heap.size 5 1 (.slice Y 32 cy) 32 (bv YB)) := hide (own_kept HY5.out v5 hyb)
  have HS6 := hide v2
  have HP6 := hide v3
  have HB6 := hide (Below.trans HB5.out (v4.mono (by have := HL3.out.lt; omega)))
  clear v1 v2 v3 v4 v5 f0 f1 f0z f1z fl XS HF5 HM5 HO5 HZ5 HL5 HS5
  go_wp2_with fail
  rw [rounds_succ]
  obtain ⟨⟨x0, x1, x2, x3, x4, x5, x6, x7⟩, xz0, xz1, xz2, xz3, xz4, xz5, xz6, xz7⟩ := blk8 HL6.out
  have xl := HL6.out.lt
  obtain ⟨⟨y0, y1, y2, y3, y4, y5⟩, yz0, yz1, yz2, yz3, yz4, yz5⟩ := blk6 HM6.out
  have yl := HM6.out.lt
  obtain ⟨⟨v0, v1, v2, v3, v4, v5, v6, v7⟩, vz0, vz1, vz2, vz3, vz4, vz5, vz6, vz7⟩ := blk8 HO6.out
  have vl := HO6.out.lt
  obtain ⟨⟨t0, t1, t2, t3, t4, t5, t6, t7⟩, tz0, tz1, tz2, tz3, tz4, tz5, tz6, tz7⟩ := blk8 HZ6.out
  have tl := HZ6.out.lt
  have vq : IntKind.i64.wrap ((q : Int) + 1) = (q : Int) + 1 := by simp [IntKind.wrap, IntKind.bits, IntKind.signed]; omega
  have hne1 : w1.heap.size ≠ w.heap.size + 2 := by have h1 : W0.heap.size ≤ w1.heap.size := hw01; omega
  go_wp2_with fail
  have hW2s : w1.heap.size < W2.heap.size := HW2S.out
  have ho5 : w1.heap.size < w5.heap.size := by omega
  have hr5 : w.heap.size + 2 < w5.heap.size := by omega
  have ho2 : w1.heap.size < W2.heap.size := hW2s
  have hr2 : w.heap.size + 2 < W2.heap.size := by omega
  have hr5' : w.heap.size + 1 + 1 < w5.heap.size := hr5
  have hr2' : w.heap.size + 1 + 1 < W2.heap.size := hr2
  have hle1 : w.heap.size ≤ w1.heap.size := by omega
  have hle2 : w.heap.size ≤ w.heap.size + 2 := by omega
  obtain ⟨WE, hWE⟩ : ∃ W, (((((((((((((((w6.setCell ⟨w1.heap.size, 0, none⟩ (.slice A6 n6 c6)).setCell ⟨w1.heap.size, 1, none⟩ (.slice B6 m6 k6)).setCell ⟨w1.heap.size, 2, none⟩ (.int .i64 room)).setCell ⟨w1.heap.size, 3, none⟩ (.bool T2)).setCell ⟨w1.heap.size, 4, none⟩ (.int .i64 R2)).setCell ⟨w1.heap.size, 5, none⟩ (.int .i64 ((q : Int) + 1))).setCell ⟨w1.heap.size, 6, none⟩ (.slice Y 32 cy)).setCell ⟨w.heap.size + 1 + 1, 0, none⟩ (.slice A6 n6 c6)).setCell ⟨w.heap.size + 1 + 1, 1, none⟩ (.slice B6 m6 k6)).setCell ⟨w.heap.size + 1 + 1, 2, none⟩ (.int .i64 room)).setCell ⟨w.heap.size + 1 + 1, 3, none⟩ (.bool T2)).setCell ⟨w.heap.size + 1 + 1, 4, none⟩ (.int .i64 R2)).setCell ⟨w.heap.size + 1 + 1, 5, none⟩ (.int .i64 ((q : Int) + 1))).setCell ⟨w.heap.size + 1 + 1, 6, none⟩ (.slice Y 32 cy)).setCell ⟨w.heap.size + 1 + 1, 7, none⟩ (.bool stop)) = W := ⟨_, rfl⟩
  have HSE : Hid (w6.ownsRow w5.heap.size 5 1 (.slice A6 n6 c6) n6 (bv (s ++ P1)) → WE.ownsRow w5.heap.size 5 1 (.slice A6 n6 c6) n6 (bv (s ++ P1))) := hide (fun h => by rw [← hWE]; exact own15 h w1.heap.size (w.heap.size + 1 + 1) ho5 hr5' (.slice A6 n6 c6) (.slice B6 m6 k6) (.int .i64 room) (.bool T2) (.int .i64 R2) (.int .i64 ((q : Int) + 1)) (.slice Y 32 cy) (.slice A6 n6 c6) (.slice B6 m6 k6) (.int .i64 room) (.bool T2) (.int .i64 R2) (.int .i64 ((q : Int) + 1)) (.slice Y 32 cy) (.bool stop))
  have HPE : Hid (w6.ownsRow w5.heap.size 5 1 (.slice B6 m6 k6) m6 (bv []) → WE.ownsRow w5.heap.size 5 1 (.slice B6 m6 k6) m6 (bv [])) := hide (fun h => by rw [← hWE]; exact own15 h w1.heap.size (w.heap.size + 1 + 1) ho5 hr5' (.slice A6 n6 c6) (.slice B6 m6 k6) (.int .i64 room) (.bool T2) (.int .i64 R2) (.int .i64 ((q : Int) + 1)) (.slice Y 32 cy) (.slice A6 n6 c6) (.slice B6 m6 k6) (.int .i64 room) (.bool T2) (.int .i64 R2) (.int .i64 ((q : Int) + 1)) (.slice Y 32 cy) (.bool stop))
  have HYE : Hid (WE.ownsRow W2.heap.size 5 1 (.slice Y 32 cy) 32 (bv YB)) := hide (by rw [← hWE]; exact own15 HY6.out w1.heap.size (w.heap.size + 1 + 1) ho2 hr2' (.slice A6 n6 c6) (.slice B6 m6 k6) (.int .i64 room) (.bool T2) (.int .i64 R2) (.int .i64 ((q : Int) + 1)) (.slice Y 32 cy) (.slice A6 n6 c6) (.slice B6 m6 k6) (.int .i64 room) (.bool T2) (.int .i64 R2) (.int .i64 ((q : Int) + 1)) (.slice Y 32 cy) (.bool stop))
  have HBE : Hid (Below w.heap.size w WE) := hide (by rw [← hWE]; exact below15 HB6.out w1.heap.size (w.heap.size + 1 + 1) hle1 hle2 (.slice A6 n6 c6) (.slice B6 m6 k6) (.int .i64 room) (.bool T2) (.int .i64 R2) (.int .i64 ((q : Int) + 1)) (.slice Y 32 cy) (.slice A6 n6 c6) (.slice B6 m6 k6) (.int .i64 room) (.bool T2) (.int .i64 R2) (.int .i64 ((q : Int) + 1)) (.slice Y 32 cy) (.bool stop))
  have HZE : Hid (Blk WE (w.heap.size + 1 + 1) 26 #[.slice A6 n6 c6, .slice B6 m6 k6, .int .i64 room, .bool T2, .int .i64 R2, .int .i64 ((q : Int) + 1), .slice Y 32 cy, .bool stop]) := hide (by rw [← hWE]; exact set_log (far7 (a := w1.heap.size) HZ6.out (Ne.symm hne1) (.slice A6 n6 c6) (.slice B6 m6 k6) (.int .i64 room) (.bool T2) (.int .i64 R2) (.int .i64 ((q : Int) + 1)) (.slice Y 32 cy)) (.slice A6 n6 c6) (.slice B6 m6 k6) (.int .i64 room) (.bool T2) (.int .i64 R2) (.int .i64 ((q : Int) + 1)) (.slice Y 32 cy) (.bool stop))
  have HF : Hid (∀ W, W = WE.drew → WOk (s ++ P1) [] YB room T2 R2 q stop w (.returned (.tuple #[.agg #[.slice A6 n6 c6, .slice B6 m6 k6, .int .i64 room, .bool T2, .int .i64 R2, .int .i64 ((q : Int) + 1), .slice Y 32 cy, .bool stop], .int .i64 0])) W) := hide (fun W hW => by
    subst hW
    exact ⟨A6, n6, c6, B6, m6, k6, Y, cy, rfl, Reads.drew (Reads.of_own (HSE.out HS6.out)), HS6.out.caps.1, Reads.drew (Reads.of_own (HPE.out HP6.out)), HP6.out.caps.1, Reads.drew (Reads.of_own HYE.out), OwB.le (B := W2.heap.size) HY6.out, Below.drew HBE.out⟩)
  clear HSE HPE HYE HBE
  go_region_law (fail)
  all_goals
    go_wp2
    clear hWE v0 v1 v2 v3 v4 v5 v6 v7 vz0 vz1 vz2 vz3 vz4 vz5 vz6 vz7 vl t0 t1 t2 t3 t4 t5 t6 t7 tz0 tz1 tz2 tz3 tz4 tz5 tz6 tz7 tl
    obtain ⟨⟨a0, a1, a2, a3, a4, a5, a6, a7⟩, z0, z1, z2, z3, z4, z5, z6, z7⟩ := blk8 HZE.out
    have al' := HZE.out.lt
    refine bodyPost_ret (v := .tuple #[.agg #[.slice A6 n6 c6, .slice B6 m6 k6, .int .i64 room, .bool T2, .int .i64 R2, .int .i64 ((q : Int) + 1), .slice Y 32 cy, .bool stop], .int .i64 0]) (by simp only [results, Tryz.results8]; go_simp) rfl (HF.out _ rfl)
end Go.Proofs.YtbbobffedgcbhaaGreatDoor
