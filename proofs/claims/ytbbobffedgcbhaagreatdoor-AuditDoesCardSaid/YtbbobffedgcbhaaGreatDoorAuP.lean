/- The sentinels; audit.code, audit.prepare. -/
import Derived.Test.YtbbobffedgcbhaaGreatDoorAuB
import Derived.Test.YtbbobffedgcbhaaGreatDoorAuE
namespace Go.Proofs.YtbbobffedgcbhaaGreatDoor
open Go.RowKit
set_option linter.unusedVariables false
/-- The three sentinels (0: medium, 1: argument, 2: stopped). -/
structure Sent (a0 a1 a2 : Addr) (w : World) : Prop where
  m : w.cell? ⟨0, 0, none⟩ = some (.iface 172 (.pointer (some a0)))
  g : w.cell? ⟨1, 0, none⟩ = some (.iface 172 (.pointer (some a1)))
  s : w.cell? ⟨2, 0, none⟩ = some (.iface 172 (.pointer (some a2)))
  hm : ∃ cs t, w.heap[a0.block]? = some (.cells cs t (0, 0))
  hg : ∃ cs t, w.heap[a1.block]? = some (.cells cs t (0, 0))
  hs : ∃ cs t, w.heap[a2.block]? = some (.cells cs t (0, 0))
  nm : a0 ≠ a1
  ns : a2 ≠ a1
theorem keep_row {w w' : World} {b : Nat} (h : ∃ cs t, w.heap[b]? = some (.cells cs t (0, 0))) (hb : Below w.heap.size w w') : ∃ cs t, w'.heap[b]? = some (.cells cs t (0, 0)) := by
  obtain ⟨cs, t, h⟩ := h
  exact ⟨cs, t, Blk.below (t := t) (cs := cs) h hb (Blk.lt (t := t) (cs := cs) h)⟩
theorem Sent.below {a0 a1 a2 : Addr} {w w' : World} (h : Sent a0 a1 a2 w) (hb : Below w.heap.size w w') : Sent a0 a1 a2 w' :=
  ⟨(hb.cell (World.block_lt_of_cell? w _ h.m)).trans h.m, (hb.cell (World.block_lt_of_cell? w _ h.g)).trans h.g, (hb.cell (World.block_lt_of_cell? w _ h.s)).trans h.s, keep_row h.hm hb, keep_row h.hg hb, keep_row h.hs hb, h.nm, h.ns⟩
theorem acode_any (s : ByteArray) (x a0 a1 a2 : Addr) (w : World) (hE : Sent a0 a1 a2 w) (hx : ∃ cs t, w.heap[x.block]? = some (.cells cs t (0, 0))) (hne : x ≠ a1) :
    Calls Tryz.prog 27 #[.iface 67 (.agg #[.string s, .iface 172 (.pointer (some x))])] w fun e w' => e = .returned (.int .i64 42) ∧ Below w.heap.size w w' := by
  obtain ⟨ca, ta, ha⟩ := hx
  obtain ⟨cb, tb, hb⟩ := hE.hg
  have X := hide (is_refusal s x a1 ca cb ta tb w ha hb false (fun h => by cases h) (fun _ => hne))
  have c1 := hE.g
  have l1 := World.block_lt_of_cell? w _ hE.g
  clear ha hb hE hne
  go_enter Tryz.func27, Tryz.ntmps27
  go_wp2_with fail
  refine X.out.mono ?_
  rintro e1 w1 ⟨rfl, rfl⟩
  go_wp2_with fail
  go_ret
  exact ⟨rfl, (Below.refl _ _).alloc (Nat.le_refl _) _⟩
abbrev bxL (L : Lg) (A : Option Addr) (n c : Nat) (B : Option Addr) (m k : Nat) (H : Option Addr) (hn hc : Nat) : Obj := .cells (lcs L A n c B m k H hn hc) 26
set_option maxRecDepth 100000 in
set_option maxHeartbeats 8000000 in
theorem aprep_stop (L : Lg) (r : Rec) (a0 a1 a2 : Addr) (A : Option Addr) (n c : Nat) (B : Option Addr) (m k : Nat) (H : Option Addr) (hn hc : Nat) (RA : Option Addr) (rn rc : Nat) (w : World) (hI : LogIn w L A n c B m k H hn hc) (hok : okL L = true) (hst : L.stop = true) (hS : Std w) (hT : Tabs w) (hE : Sent a0 a1 a2 w) :
    Calls Tryz.prog 26 #[lv L A n c B m k H hn hc, Rec.v r RA rn rc] w fun e w' => e = .returned (.tuple #[.slice none 0 0, .slice none 0 0, .iface 67 (.agg #[.string ⟨#[119, 114, 105, 116, 101]⟩, .iface 172 (.pointer (some a2))])]) ∧ Below w.heap.size w w' := by
  have hb2 : Below w.heap.size w ((w.alloc (bxL L A n c B m k H hn hc)).alloc (.cells (Rec.cs r RA rn rc) 28)) := (bl_alloc w _).alloc (by simp) _
  have XC := hide (acheck_any L A n c B m k H hn hc _ (hI.below hb2) (hS.below hb2) (hT.below hb2))
  rw [hok] at XC
  have HK := hide (show Blk ((w.alloc (bxL L A n c B m k H hn hc)).alloc (.cells (Rec.cs r RA rn rc) 28)) w.heap.size 26 (lcs L A n c B m k H hn hc) from (Blk.new w 26 _).below (bl_alloc _ _) (by simp))
  have HB := hide hb2
  have HE := hide (hE.below hb2)
  clear hb2 hI hok hS hT hE
  obtain ⟨s, p, room, dead, arm, seq, hash, stop⟩ := L
  obtain ⟨q, op, pa, pb, g, al⟩ := r
  dsimp only at hst
  subst hst
  unfold bxL lv lcs Rec.v Rec.cs at *
  dsimp only at *
  go_enter Tryz.func26, Tryz.ntmps26
  go_wp2_with fail
  refine XC.out.mono ?_
  rintro e1 w1 ⟨rfl, u1⟩
  have HB1 := hide (below_more HB.out (Nat.le_refl _) u1)
  have HE1 := hide (HE.out.below u1)
  have hk1 := HK.out.below u1 HK.out.lt
  obtain ⟨x0, x1, x2, x3, x4, x5, x6, x7⟩ := hk1.eight
  have xl := hk1.lt
  have c2 := HE1.out.s
  have l2 := World.block_lt_of_cell? w1 _ HE1.out.s
  clear u1 XC HK hk1
  go_wp2_with fail
  go_quiet (fail)
  go_wp2_with fail
  first
    | exact ⟨rfl, below_drewN HB1.out _⟩
    | refine bodyPost_ret (v := .tuple #[.slice none 0 0, .slice none 0 0, .iface 67 (.agg #[.string ⟨#[119, 114, 105, 116, 101]⟩, .iface 172 (.pointer (some a2))])]) (by simp only [results, Tryz.results26]; go_simp) rfl ⟨rfl, below_drewN HB1.out _⟩
set_option maxRecDepth 100000 in
set_option maxHeartbeats 8000000 in
theorem aprep_ok (L : Lg) (r : Rec) (A : Option Addr) (n c : Nat) (B : Option Addr) (m k : Nat) (H : Option Addr) (hn hc : Nat) (RA : Option Addr) (rn rc : Nat) (w : World) (hI : LogIn w L A n c B m k H hn hc) (hok : okL L = true) (hst : L.stop = false) (hV : validP r = true) (hD : Rd w RA rn r.dig) (hS : Std w) (hT : Tabs w) :
    Calls Tryz.prog 26 #[lv L A n c B m k H hn hc, Rec.v r RA rn rc] w fun e w' => ∃ X x cx Y cy, e = .returned (.tuple #[.slice X x cx, .slice Y 32 cy, .nilIface]) ∧ x = 2 + (encP r).length + 32 ∧ OwB w.heap.size w' X x cx (entP L.hash r) ∧ OwB w.heap.size w' Y 32 cy (digP L.hash (encP r)) ∧ Below w.heap.size w w' := by
  have h32 : hn = 32 := by
    have h1 := (okL_split hok).2.2.1
    have h2 := scanB_last L.s
    rw [h1] at h2
    rw [← hI.rh.len]; exact h2
  subst h32
  have hb2 : Below w.heap.size w ((w.alloc (bxL L A n c B m k H 32 hc)).alloc (.cells (Rec.cs r RA rn rc) 28)) := (bl_alloc w _).alloc (by simp) _
  have XC := hide (acheck_any L A n c B m k H 32 hc _ (hI.below hb2) (hS.below hb2) (hT.below hb2))
  rw [hok] at XC
  have HK := hide (show Blk ((w.alloc (bxL L A n c B m k H 32 hc)).alloc (.cells (Rec.cs r RA rn rc) 28)) w.heap.size 26 (lcs L A n c B m k H 32 hc) from (Blk.new w 26 _).below (bl_alloc _ _) (by simp))
  have HR : Hid (Blk ((w.alloc (bxL L A n c B m k H 32 hc)).alloc (.cells (Rec.cs r RA rn rc) 28)) (w.heap.size + 1) 28 (Rec.cs r RA rn rc)) := hide (by
    have h := Blk.new (w.alloc (bxL L A n c B m k H 32 hc)) 28 (Rec.cs r RA rn rc)
    simpa using h)
  have XK := hide (fun W (hW : Below w.heap.size w W) => chk_any r RA rn rc hD.len W (hS.below hW))
  rw [hV] at XK
  have XL := hide (fun W (hW : Below w.heap.size w W) => link_ok L.hash r H RA hc rn rc hD.len W (hS.below hW) (hT.below hW) (rb hD hW) hV (rb hI.rh hW) hI.lh)
  unfold RetLinkYes at XL
  have HB := hide hb2
  clear hb2 hI hok hS hT hV hD
  obtain ⟨EN, hEN⟩ : ∃ x, 2 + (encP r).length + 32 = x := ⟨_, rfl⟩
  obtain ⟨XB, hXB⟩ : ∃ x, entP L.hash r = x := ⟨_, rfl⟩
  obtain ⟨YB, hYB⟩ : ∃ x, digP L.hash (encP r) = x := ⟨_, rfl⟩
  rw [hEN, hXB, hYB] at XL ⊢
  clear hEN hXB hYB
  obtain ⟨s, p, room, dead, arm, seq, hash, stop⟩ := L
  obtain ⟨q, op, pa, pb, g, al⟩ := r
  dsimp only at hst
  subst hst
  unfold bxL lv lcs Rec.v Rec.cs at *
  dsimp only at *
  go_enter Tryz.func26, Tryz.ntmps26
  go_wp2_with fail
  refine XC.out.mono ?_
  rintro e1 w1 ⟨rfl, u1⟩
  have HB1 := hide (below_more HB.out (Nat.le_refl _) u1)
  have HK1 := hide (HK.out.below u1 HK.out.lt)
  have HR1 := hide (HR.out.below u1 HR.out.lt)
  have XK1 := hide (XK.out w1 HB1.out)
  obtain ⟨x0, x1, x2, x3, x4, x5, x6, x7⟩ := HK1.out.eight
  have xl := HK1.out.lt
  obtain ⟨y0, y1, y2, y3, y4, y5⟩ := HR1.out.six
  have yl := HR1.out.lt
  clear u1 XC XK HK HR
  go_wp2_with fail
  refine XK1.out.mono ?_
  rintro e2 w2 ⟨rfl, u1⟩
  have HB2 := hide (below_more HB1.out (Nat.le_refl _) u1)
  have HK2 := hide (HK1.out.below u1 HK1.out.lt)
  have HR2 := hide (HR1.out.below u1 HR1.out.lt)
  have XL2 := hide (XL.out w2 HB2.out)
  clear x0 x1 x2 x3 x4 x5 x6 x7 xl y0 y1 y2 y3 y4 y5 yl u1 XK1 XL HK1 HR1
  obtain ⟨x0, x1, x2, x3, x4, x5, x6, x7⟩ := HK2.out.eight
  have xl := HK2.out.lt
  obtain ⟨y0, y1, y2, y3, y4, y5⟩ := HR2.out.six
  have yl := HR2.out.lt
  go_wp2_with fail
  refine XL2.out.mono ?_
  rintro e3 w3 ⟨X, x, cx, Y, cy, rfl, g1, g2, g3, g4⟩
  have HB3 := hide (below_more HB2.out (Nat.le_refl _) g4)
  have HX := hide (own_more g2 HB2.out.size)
  have HY := hide (own_more g3 HB2.out.size)
  have HG := hide g1
  clear g1 g2 g3 g4 XL2 x0 x1 x2 x3 x4 x5 x6 x7 xl y0 y1 y2 y3 y4 y5 yl HK2 HR2
  go_wp2_with fail
  first
    | exact ⟨X, x, cx, Y, cy, rfl, HG.out, HX.out, HY.out, HB3.out⟩
    | refine bodyPost_ret (v := .tuple #[.slice X x cx, .slice Y 32 cy, .nilIface]) (by simp only [results, Tryz.results26]; go_simp) rfl ⟨X, x, cx, Y, cy, rfl, HG.out, HX.out, HY.out, HB3.out⟩
end Go.Proofs.YtbbobffedgcbhaaGreatDoor
