/- clone.Log. -/
import Derived.Test.YtbbobffedgcbhaaGreatDoorAuP
import Derived.Deep.RegionLaw
import Derived.Deep.AppendLies
namespace Go.Proofs.YtbbobffedgcbhaaGreatDoor
open Go.RowKit
set_option linter.unusedVariables false
theorem blk8 {w : World} {g : Nat} {t : TypeId} {a b c d e f x y : Value} (H : Blk w g t #[a, b, c, d, e, f, x, y]) : (w.cell? ⟨g, 0, none⟩ = some a ∧ w.cell? ⟨g, 1, none⟩ = some b ∧ w.cell? ⟨g, 2, none⟩ = some c ∧ w.cell? ⟨g, 3, none⟩ = some d ∧ w.cell? ⟨g, 4, none⟩ = some e ∧ w.cell? ⟨g, 5, none⟩ = some f ∧ w.cell? ⟨g, 6, none⟩ = some x ∧ w.cell? ⟨g, 7, none⟩ = some y) ∧ w.frozen? ⟨g, 0, none⟩ = false ∧ w.frozen? ⟨g, 1, none⟩ = false ∧ w.frozen? ⟨g, 2, none⟩ = false ∧ w.frozen? ⟨g, 3, none⟩ = false ∧ w.frozen? ⟨g, 4, none⟩ = false ∧ w.frozen? ⟨g, 5, none⟩ = false ∧ w.frozen? ⟨g, 6, none⟩ = false ∧ w.frozen? ⟨g, 7, none⟩ = false :=
  ⟨H.eight, H.frozen 0, H.frozen 1, H.frozen 2, H.frozen 3, H.frozen 4, H.frozen 5, H.frozen 6, H.frozen 7⟩
set_option maxRecDepth 100000 in
set_option maxHeartbeats 8000000 in
theorem clog_any (L : Lg) (A : Option Addr) (n c : Nat) (B : Option Addr) (m k : Nat) (H : Option Addr) (hn hc : Nat) (w : World) (hI : LogIn w L A n c B m k H hn hc) :
    Calls Tryz.prog 25 #[lv L A n c B m k H hn hc] w fun e w' => ∃ A' c' B' k' H' h', e = .returned (lv L A' n c' B' m k' H' hn h') ∧ OwB w.heap.size w' A' n c' L.s ∧ OwB w.heap.size w' B' m k' L.p ∧ OwB w.heap.size w' H' hn h' L.hash ∧ Below w.heap.size w w' := by
  obtain ⟨s, p, room, dead, arm, seq, hash, stop⟩ := L
  obtain ⟨rs, ls, rp, lp, rh, lh, sn, sm, sh⟩ := hI
  unfold lv
  dsimp only at *
  go_enter Tryz.func25, Tryz.ntmps25
  go_wp2_with fail
  generalize hW1 : ((w.alloc (.cells #[Value.slice A n c, .slice B m k, .int .i64 room, .bool dead, .int .i64 arm, .int .i64 seq, .slice H hn hc, .bool stop] 26)).alloc (.cells #[Value.slice none 0 0, .slice none 0 0, .int .i64 0, .bool false, .int .i64 0, .int .i64 0, .slice none 0 0, .bool false] 26)) = W1
  have hP : Blk W1 w.heap.size 26 #[Value.slice A n c, .slice B m k, .int .i64 room, .bool dead, .int .i64 arm, .int .i64 seq, .slice H hn hc, .bool stop] := by rw [← hW1]; exact (Blk.new w 26 _).alloc _
  have hQ : Blk W1 (w.heap.size + 1) 26 #[Value.slice none 0 0, .slice none 0 0, .int .i64 0, .bool false, .int .i64 0, .int .i64 0, .slice none 0 0, .bool false] := by
    rw [← hW1]
    have h1 := Blk.new (w.alloc (.cells #[Value.slice A n c, .slice B m k, .int .i64 room, .bool dead, .int .i64 arm, .int .i64 seq, .slice H hn hc, .bool stop] 26)) 26 #[Value.slice none 0 0, .slice none 0 0, .int .i64 0, .bool false, .int .i64 0, .int .i64 0, .slice none 0 0, .bool false]
    simpa only [World.size_alloc] using h1
  have hRA : Reads W1 w.heap.size 1 A n (bv s) := by rw [← hW1]; exact (rs.alloc (Nat.le_refl _) _).alloc (by simp) _
  have hRB : Reads W1 w.heap.size 1 B m (bv p) := by rw [← hW1]; exact (rp.alloc (Nat.le_refl _) _).alloc (by simp) _
  have hRH : Reads W1 w.heap.size 1 H hn (bv hash) := by rw [← hW1]; exact (rh.alloc (Nat.le_refl _) _).alloc (by simp) _
  have hb0 : Below w.heap.size w W1 := by rw [← hW1]; exact ((Below.refl _ _).alloc (Nat.le_refl _) _).alloc (by simp) _
  have hz : w.heap.size + 1 < W1.heap.size := by rw [← hW1]; simp
  have hz' : w.heap.size < W1.heap.size := by omega
  have HW1 := hide hW1
  clear hW1 rs rp rh
  obtain ⟨⟨a0, a1, a2, a3, a4, a5, a6, a7⟩, f0, f1, f2, f3, f4, f5, f6, f7⟩ := blk8 hP
  go_region_law (first
    | (go_simp; go_at_call_of 41 (Value.agg #[Value.slice A n c, Value.slice B m k, Value.int IntKind.i64 room, Value.bool dead, Value.int IntKind.i64 arm])
       refine (Dk.cdisk_any A n c B m k room dead arm s p _ (by exact hRA.more (Nat.le_of_lt hz')) (by exact hRB.more (Nat.le_of_lt hz')) (by omega) (by omega)).mono ?_
       rintro e w2 ⟨A', c', B', k', rfl, hoA, hoB, hb1⟩
       have hP2 := Blk.below (h := (by exact hP)) (hb := hb1) hz'
       have hQ2 := Blk.below (h := (by exact hQ)) (hb := hb1) hz
       have hRH2 := Reads.below (h := (by exact hRH)) (hb := hb1.mono (Nat.le_of_lt hz'))
       have hz2 : W1.heap.size ≤ w2.heap.size := hb1.size
       have HA := hide hoA
       have HB := hide hoB
       have HB1 := hide hb1
       clear hoA hoB hb1
       obtain ⟨⟨x0, x1, x2, x3, x4, x5, x6, x7⟩, y0, y1, y2, y3, y4, y5, y6, y7⟩ := blk8 hP2)
    | (go_simp; go_at_call_of 46 (Value.slice H hn hc)
       refine (Dk.list_any H hn hc hash _ (by exact hRH2.more (by omega)) (by omega)).mono ?_
       rintro e w3 ⟨H', h', rfl, hoH, hb2⟩
       have hP3 := Blk.below (h := (by exact hP2)) (hb := hb2) (by show w.heap.size < w2.heap.size; omega)
       have hQ3 := Blk.below (h := (by exact hQ2)) (hb := hb2) (by show w.heap.size + 1 < w2.heap.size; omega)
       have hz3 : w2.heap.size ≤ w3.heap.size := hb2.size
       have HA3 := hide (own_below (by exact HA.out) hb2)
       have HB3 := hide (own_below (by exact HB.out) hb2)
       have HH := hide hoH
       have HB2 := hide hb2
       clear hoH hb2
       obtain ⟨⟨m0, m1, m2, m3, m4, m5, m6, m7⟩, n0, n1, n2, n3, n4, n5, n6, n7⟩ := blk8 hP3))
  all_goals
    clear a0 a1 a2 a3 a4 a5 a6 a7 f0 f1 f2 f3 f4 f5 f6 f7 x0 x1 x2 x3 x4 x5 x6 x7 y0 y1 y2 y3 y4 y5 y6 y7
    obtain ⟨⟨i0, i1, i2, i3, i4, i5, i6, i7⟩, j0, j1, j2, j3, j4, j5, j6, j7⟩ := blk8 hQ3
    have hu1 : w.heap.size < w3.heap.size := by omega
    have hu2 : w.heap.size + 1 < w3.heap.size := by omega
    go_wp2
    have HA4 : w3.ownsRow (w.heap.size + 2) 5 1 (.slice A' n c') n (bv s) := own_more HA3.out (by show w.heap.size + 2 ≤ W1.heap.size; omega)
    have HB4 : w3.ownsRow (w.heap.size + 2) 5 1 (.slice B' m k') m (bv p) := own_more HB3.out (by show w.heap.size + 2 ≤ W1.heap.size; omega)
    have HH4 : w3.ownsRow (w.heap.size + 2) 5 1 (.slice H' hn h') hn (bv hash) := own_more HH.out (by show w.heap.size + 2 ≤ w2.heap.size; omega)
    have bel1 : Below w.heap.size w w2 := by
      first
        | exact hb0.trans (HB1.out.mono (by show w.heap.size ≤ W1.heap.size; omega))
        | exact hb0.drew.trans (HB1.out.mono (by show w.heap.size ≤ W1.heap.size; omega))
        | exact hb0.drew.drew.trans (HB1.out.mono (by show w.heap.size ≤ W1.heap.size; omega))
    have bel2 : Below w.heap.size w w3 := by
      first
        | exact bel1.trans (HB2.out.mono (by show w.heap.size ≤ w2.heap.size; omega))
        | exact bel1.drew.trans (HB2.out.mono (by show w.heap.size ≤ w2.heap.size; omega))
        | exact bel1.drew.drew.trans (HB2.out.mono (by show w.heap.size ≤ w2.heap.size; omega))
    refine bodyPost_ret (v := .agg #[.slice A' n c', .slice B' m k', .int .i64 room, .bool dead, .int .i64 arm, .int .i64 seq, .slice H' hn h', .bool stop]) (by simp only [results, Tryz.results25]; go_simp) rfl ⟨A', c', B', k', H', h', rfl, ?_, ?_, ?_, ?_⟩
    · exact own_more (own_far (own_far (own_far (own_far (own_far (own_far (own_far (own_far (own_far (own_far (own_far (own_far (own_far (own_far HA4 (by simp) _) (by simp) _) (by simp) _) (by simp) _) (by simp) _) (by simp) _) (by simp) _) (by simp) _) (by simp) _) (by simp) _) (by simp) _) (by simp) _) (by simp) _) (by simp) _) (by omega)
    · exact own_more (own_far (own_far (own_far (own_far (own_far (own_far (own_far (own_far (own_far (own_far (own_far (own_far (own_far (own_far HB4 (by simp) _) (by simp) _) (by simp) _) (by simp) _) (by simp) _) (by simp) _) (by simp) _) (by simp) _) (by simp) _) (by simp) _) (by simp) _) (by simp) _) (by simp) _) (by simp) _) (by omega)
    · exact own_more (own_far (own_far (own_far (own_far (own_far (own_far (own_far (own_far (own_far (own_far (own_far (own_far (own_far (own_far HH4 (by simp) _) (by simp) _) (by simp) _) (by simp) _) (by simp) _) (by simp) _) (by simp) _) (by simp) _) (by simp) _) (by simp) _) (by simp) _) (by simp) _) (by simp) _) (by simp) _) (by omega)
    · exact ((((((((((((((bel2.setCell (by simp) _).setCell (by simp) _).setCell (by simp) _).setCell (by simp) _).setCell (by simp) _).setCell (by simp) _).setCell (by simp) _).setCell (by simp) _).setCell (by simp) _).setCell (by simp) _).setCell (by simp) _).setCell (by simp) _).setCell (by simp) _).setCell (by simp) _)
end Go.Proofs.YtbbobffedgcbhaaGreatDoor
