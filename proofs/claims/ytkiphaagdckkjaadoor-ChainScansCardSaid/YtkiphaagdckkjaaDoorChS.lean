/- The three functions that chain.read is given. -/
import Derived.Test.YtkiphaagdckkjaaDoorChR
namespace Go.Proofs.YtkiphaagdckkjaaDoor
open Go.RowKit
set_option linter.unusedVariables false
theorem Reads.set1 {w : World} {B : Nat} {A : Option Addr} {n : Nat} {xs : List UInt8} (h : Reads w B 1 A n (bv xs)) {p : Addr} {v0 : Value} (hp : w.cell? p = some v0) (hv : ∀ z, v0 ≠ .int .u8 z) (u : Value) : Reads (w.setCell p u) B 1 A n (bv xs) := by
  refine ⟨h.1, fun h0 => ?_⟩
  obtain ⟨ad, e, hb, hc⟩ := h.2 h0
  refine ⟨ad, e, hb, fun j y hj => ?_⟩
  rw [World.cell?_setCell_other w p (ad.add j) u ?_]
  · exact hc j y hj
  · intro e2
    have h1 := hc j y hj
    rw [← e2, hp] at h1
    have hm := List.mem_of_getElem? hj
    simp only [bv, List.mem_map] at hm
    obtain ⟨b, _, rfl⟩ := hm
    injection h1 with h1
    exact hv _ h1
set_option maxRecDepth 100000 in
set_option maxHeartbeats 4000000 in
theorem scan1_any (x : RV) (p B : Nat) (O : Option Addr) (q co : Nat) (l : List RV) (w : World) (hP : Blk w p 34 #[.slice O q co]) (hpB : p < B) (hBw : B ≤ w.heap.size) (hO : OutR B w O q co l) (hx : RVok w x) (hne : ∀ ad, x.A = some ad → 0 < x.n → some ad.block ≠ (Value.slice O q co).ownBlock) (hq : q ≤ 1000000) :
    Calls Tryd.prog 32 #[x.v, .pointer (some ⟨p, 0, none⟩)] w fun e w' => e = .returned (.bool true) ∧ ∃ O' c', Blk w' p 34 #[.slice O' (q + 1) c'] ∧ OutR B w' O' (q + 1) c' (l ++ [x]) ∧ Below p w w' := by
  obtain ⟨i0, hi, hz0, hz1, hz2⟩ := info_rec
  have hb1 := bl_alloc w (.cells x.cs.toArray 24)
  have hb2 : Below w.heap.size w ((w.alloc (.cells x.cs.toArray 24)).alloc (.cells x.cs.toArray 24)) := hb1.alloc (by simp) _
  have hR : Reads ((w.alloc (.cells x.cs.toArray 24)).alloc (.cells x.cs.toArray 24)) (w.heap.size + 1 + 1) 6 (some ⟨w.heap.size + 1, 0, none⟩) 1 (rcs [x]) := by
    have h := one_rec (x := x) (Blk.new (w.alloc (.cells x.cs.toArray 24)) 24 x.cs.toArray)
    simpa using h
  have hO2 := hO.below hb2
  have hx2 := hx.below hb2
  have hP2 := hP.below hb2 hP.lt
  have hB2 := hb2.mono (Nat.le_of_lt hP.lt)
  have X : Hid (∀ O2 co2 w2, w2.ownsRow B 24 6 (.slice O2 (q + 1) co2) (q + 1) (rcs l ++ rcs [x]) → ((w.alloc (.cells x.cs.toArray 24)).alloc (.cells x.cs.toArray 24)).grownBy w2 (Value.slice O q co).ownBlock →
      ((Value.slice O2 (q + 1) co2).ownBlock = (Value.slice O q co).ownBlock ∨ (Value.slice O2 (q + 1) co2).ownBlock = some (w.heap.size + 1 + 1)) →
      (Blk w2 p 34 #[.slice O q co]) ∧ OutR B (w2.setCell ⟨p, 0, none⟩ (.slice O2 (q + 1) co2)) O2 (q + 1) co2 (l ++ [x]) ∧ Below p w (w2.setCell ⟨p, 0, none⟩ (.slice O2 (q + 1) co2))) := hide (by
    intro O2 co2 w2 h1 h2 h3
    have hgr : ∀ k, (Value.slice O q co).ownBlock = some k → B ≤ k := fun k hk => (hO2.1.lt k hk).1
    have h4 := out_grow hO2 hx2 hne h1 h2 (by simpa using h3)
    have hP3 : Blk w2 p 34 #[.slice O q co] := (h2.block p hP2.lt (fun h => by have := hgr p h.symm; omega)).trans hP2
    refine ⟨hP3, ⟨own_far h4.1 hpB _, fun y hy => ⟨(Reads.set1 (h4.2.1 y hy).1 (hP3.cell 0) (fun z => by simp) (.slice O2 (q + 1) co2)).more (by simp), (h4.2.1 y hy).2⟩, h4.2.2⟩, ?_⟩
    exact (hB2.grown h2 (Nat.le_of_lt hP2.lt) (fun k hk => by have := hgr k hk; omega)).setCell (Nat.le_refl _) _)
  have HO2 := hide hO2.1
  have HR := hide hR
  have p1 := hP.cell 0
  have p2 := hP.frozen 0
  have pl := hP.lt
  simp at p1
  clear hP hO hx hne hb1 hb2 hR hO2 hx2 hP2 hB2
  obtain ⟨⟨sq, op, pa, pb, dg, al⟩, XA, xn, xc⟩ := x
  unfold RV.v Rec.v RV.cs at *
  dsimp only at *
  go_enter Tryd.func32, Tryd.ntmps32
  go_wp2_with (at_builtin; (refine wpList_append_any _ rfl (.tmp 4) (.tmp 6) 34 rfl B 24 i0 _ 6 80 Tryd.underlying34 hi hz0 hz1 hz2 rfl (by omega) (.slice O q co) q (rcs l) rfl HO2.out (w.heap.size + 1 + 1) (some ⟨w.heap.size + 1, 0, none⟩) 1 1 _ rfl HR.out (rcs_one _) ?c1 ?c2 ?c3 ?_))
  case c1 => unfold maxLen; omega
  case c2 => omega
  case c3 => simp; omega
  intro v2 w2 ho2 hg2 hat2
  obtain ⟨O2, co2, rfl⟩ := own_slice ho2
  obtain ⟨hP3, h4, h5⟩ := X.out O2 co2 w2 ho2 hg2 hat2
  have H4 := hide h4
  have H5 := hide h5
  have HP3 := hide hP3
  have p3 := hP3.cell 0
  have p4 := hP3.frozen 0
  have p5 := hP3.lt
  simp at p3
  clear ho2 hg2 hat2 h4 h5 X HO2 HR p1 p2 pl hP3
  go_wp2_with fail
  go_ret
  exact ⟨rfl, O2, co2, HP3.out.set_ 0 _, H4.out, H5.out⟩
set_option maxRecDepth 100000 in
set_option maxHeartbeats 1000000 in
theorem verify1_any (x : RV) (w : World) :
    Calls Tryd.prog 35 #[x.v] w fun e w' => e = .returned (.bool true) ∧ Below w.heap.size w w' := by
  have hb1 := hide (bl_alloc w (.cells x.cs.toArray 24))
  obtain ⟨⟨sq, op, pa, pb, dg, al⟩, XA, xn, xc⟩ := x
  unfold RV.v Rec.v RV.cs at *
  dsimp only at *
  go_enter Tryd.func35, Tryd.ntmps35
  go_wp2_with fail
  go_ret
  exact ⟨rfl, hb1.out⟩
set_option maxRecDepth 100000 in
set_option maxHeartbeats 1000000 in
theorem head1_any (x : RV) (p r k : Nat) (m : Int) (w : World) (hP : Blk w p 3 #[.int .i64 (k : Int)]) (hQ : Blk w r 3 #[.int .i64 m]) (hne : p ≠ r) (hk : k ≤ 1000000) :
    Calls Tryd.prog 34 #[x.v, .pointer (some ⟨p, 0, none⟩), .pointer (some ⟨r, 0, none⟩)] w fun e w' => e = .returned (.bool (decide ((k : Int) + 1 < m))) ∧ Blk w' p 3 #[.int .i64 ((k + 1 : Nat) : Int)] ∧ Blk w' r 3 #[.int .i64 m] ∧ Below (min p r) w w' := by
  have hb1 := bl_alloc w (.cells x.cs.toArray 24)
  have HP1 := hP.below hb1 hP.lt
  have HQ1 := hQ.below hb1 hQ.lt
  have hE1 : Blk ((w.setCell ⟨p, 0, none⟩ (.int .i64 ((k : Int) + 1))).alloc (.cells x.cs.toArray 24)) p 3 #[.int .i64 ((k + 1 : Nat) : Int)] := (hP.set_ 0 _).below (bl_alloc _ _) (hP.set_ 0 _).lt
  have hE2 : Blk ((w.setCell ⟨p, 0, none⟩ (.int .i64 ((k : Int) + 1))).alloc (.cells x.cs.toArray 24)) r 3 #[.int .i64 m] := (hQ.far (fun h => hne h.symm) _).below (bl_alloc _ _) (hQ.far (p := ⟨p, 0, none⟩) (fun h => hne h.symm) _).lt
  have hE3 : Below (min p r) w ((w.setCell ⟨p, 0, none⟩ (.int .i64 ((k : Int) + 1))).alloc (.cells x.cs.toArray 24)) := ((Below.refl _ w).setCell (by show min p r ≤ p; omega) _).alloc (by have := hP.lt; simp; omega) _
  have E1 := hide hE1
  have E2 := hide hE2
  have E3 := hide hE3
  have p1 := HP1.cell 0
  have p2 := HP1.frozen 0
  have pl := HP1.lt
  have q1 := HQ1.cell 0
  have ql := HQ1.lt
  have q0 := hQ.cell 0
  have p0 := hP.cell 0
  have p3 := hP.frozen 0
  have p4 := hP.lt
  have q4 := hQ.lt
  simp at p1 q1 p0 q0
  clear hb1 hE1 hE2 hE3 HP1 HQ1 hP hQ
  have wk : IntKind.i64.wrap ((k : Int) + 1) = (k : Int) + 1 := by simp [IntKind.wrap, IntKind.bits, IntKind.signed]; omega
  obtain ⟨⟨sq, op, pa, pb, dg, al⟩, XA, xn, xc⟩ := x
  unfold RV.v Rec.v RV.cs at *
  dsimp only at *
  go_enter Tryd.func34, Tryd.ntmps34
  go_wp2_with fail
  go_ret
  exact ⟨rfl, E1.out, E2.out, E3.out⟩
end Go.Proofs.YtkiphaagdckkjaaDoor
