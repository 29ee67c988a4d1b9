/- clone.Disk. -/
import Derived.Test.YthoaocjeladbkaaDiskK
import Derived.Deep.RegionLaw
import Derived.Deep.AppendLies
namespace Go.Proofs.Ythoaocjeladbkaa
open Go.RowKit
set_option linter.unusedVariables false

set_option maxHeartbeats 2000000 in
theorem cdisk_any (A : Option Addr) (n c : Nat) (B : Option Addr) (m k : Nat) (room : Int) (dead : Bool) (arm : Int) (a b : List UInt8) (w : World) (ha : Rd w A n a) (hb : Rd w B m b) (hn : n ≤ 1000000) (hm : m ≤ 1000000) :
    Calls Try.prog 30 #[dv A n c B m k room dead arm] w fun e w' => ∃ A' c' B' k', e = .returned (dv A' n c' B' m k' room dead arm) ∧ w'.ownsRow w.heap.size 5 1 (.slice A' n c') n (bv a) ∧ w'.ownsRow w.heap.size 5 1 (.slice B' m k') m (bv b) ∧ Below w.heap.size w w' := by
  go_enter Try.func30, Try.ntmps30
  go_wp2_with fail
  generalize hW1 : ((w.alloc (.cells #[Value.slice A n c, Value.slice B m k, .int .i64 room, .bool dead, .int .i64 arm] 24)).alloc (.cells #[Value.slice none 0 0, Value.slice none 0 0, .int .i64 0, .bool false, .int .i64 0] 24)) = W1
  have hP : Blk W1 w.heap.size 24 #[Value.slice A n c, .slice B m k, .int .i64 room, .bool dead, .int .i64 arm] := by rw [← hW1]; exact (Blk.new w 24 _).alloc _
  have hQ : Blk W1 (w.heap.size + 1) 24 #[Value.slice none 0 0, .slice none 0 0, .int .i64 0, .bool false, .int .i64 0] := by
    rw [← hW1]
    have h1 := Blk.new (w.alloc (.cells #[Value.slice A n c, Value.slice B m k, .int .i64 room, .bool dead, .int .i64 arm] 24)) 24 #[Value.slice none 0 0, .slice none 0 0, .int .i64 0, .bool false, .int .i64 0]
    simpa only [World.size_alloc] using h1
  have hRA : Reads W1 w.heap.size 1 A n (bv a) := by rw [← hW1]; exact (ha.alloc (Nat.le_refl _) _).alloc (by simp) _
  have hRB : Reads W1 w.heap.size 1 B m (bv b) := by rw [← hW1]; exact (hb.alloc (Nat.le_refl _) _).alloc (by simp) _
  have hb0 : Below w.heap.size w W1 := by rw [← hW1]; exact ((Below.refl _ _).alloc (Nat.le_refl _) _).alloc (by simp) _
  have hz : w.heap.size + 1 < W1.heap.size := by rw [← hW1]; simp
  have hz' : w.heap.size < W1.heap.size := by omega
  have HW1 := hide hW1
  clear hW1
  obtain ⟨⟨a0, a1, a2, a3, a4⟩, f0, f1, f2, f3, f4⟩ := hP.five
  go_region_law (first
    | (go_simp; go_at_call_of 31 (Value.slice A n c)
       refine (list_any A n c a _ (by exact hRA.more (Nat.le_of_lt hz')) hn).mono ?_
       rintro e w2 ⟨A', c', rfl, hoA, hb1⟩
       have hP2 := Blk.below (h := (by exact hP)) (hb := hb1) hz'
       have hQ2 := Blk.below (h := (by exact hQ)) (hb := hb1) hz
       have hRB2 := Reads.below (h := (by exact hRB)) (hb := hb1.mono (Nat.le_of_lt hz'))
       have hz2 : W1.heap.size ≤ w2.heap.size := hb1.size
       have HA := hide hoA
       have HB1 := hide hb1
       clear hoA hb1
       obtain ⟨⟨x0, x1, x2, x3, x4⟩, y0, y1, y2, y3, y4⟩ := hP2.five)
    | (go_simp; go_at_call_of 31 (Value.slice B m k)
       refine (list_any B m k b _ (by exact hRB2.more (by omega)) hm).mono ?_
       rintro e w3 ⟨B', k', rfl, hoB, hb2⟩
       have hP3 := Blk.below (h := (by exact hP2)) (hb := hb2) (by show w.heap.size < w2.heap.size; omega)
       have hQ3 := Blk.below (h := (by exact hQ2)) (hb := hb2) (by show w.heap.size + 1 < w2.heap.size; omega)
       have hz3 : w2.heap.size ≤ w3.heap.size := hb2.size
       have HA3 := hide (own_below (by exact HA.out) hb2)
       have HB := hide hoB
       have HB2 := hide hb2
       clear hoB hb2
       obtain ⟨⟨m0, m1, m2, m3, m4⟩, n0, n1, n2, n3, n4⟩ := hP3.five))
  all_goals
    clear a0 a1 a2 a3 a4 f0 f1 f2 f3 f4 x0 x1 x2 x3 x4 y0 y1 y2 y3 y4
    obtain ⟨⟨i0, i1, i2, i3, i4⟩, j0, j1, j2, j3, j4⟩ := hQ3.five
    have hu1 : w.heap.size < w3.heap.size := by omega
    have hu2 : w.heap.size + 1 < w3.heap.size := by omega
    go_wp2
    have HA4 : w3.ownsRow (w.heap.size + 2) 5 1 (.slice A' n c') n (bv a) := own_more HA3.out (by show w.heap.size + 2 ≤ W1.heap.size; omega)
    have HB4 : w3.ownsRow (w.heap.size + 2) 5 1 (.slice B' m k') m (bv b) := own_more HB.out (by show w.heap.size + 2 ≤ w2.heap.size; omega)
    have bel1 : Below w.heap.size w w2 := by
      first
        | exact hb0.trans (HB1.out.mono (by show w.heap.size ≤ W1.heap.size; omega))
        | exact hb0.drew.trans (HB1.out.mono (by show w.heap.size ≤ W1.heap.size; omega))
        | exact hb0.drew.drew.trans (HB1.out.mono (by show w.heap.size ≤ W1.heap.size; omega))
    have bel2 : Below w.heap.size w w3 := by
      first
        | exact bel1.trans (HB2.out.mono (by show w.heap.size ≤ w2.heap.size; omega))
        | exact bel1.drew.trans (HB2.out.mono (by show w.heap.size ≤ w2.heap.size; omega))
        | exact bel1.drew.drew.trans (HB2.out.mono (by show w.heap.size ≤ w2.heap.size; omega))
    refine bodyPost_ret (v := dv A' n c' B' m k' room dead arm) (by simp only [results, Try.results30]; go_simp) rfl ⟨A', c', B', k', rfl, ?_, ?_, ?_⟩
    · exact own_more (own_far (own_far (own_far (own_far (own_far (own_far (own_far HA4 (by simp) _) (by simp) _) (by simp) _) (by simp) _) (by simp) _) (by simp) _) (by simp) _) (by omega)
    · exact own_more (own_far (own_far (own_far (own_far (own_far (own_far (own_far HB4 (by simp) _) (by simp) _) (by simp) _) (by simp) _) (by simp) _) (by simp) _) (by simp) _) (by omega)
    · exact ((((((bel2.setCell (by simp) _).setCell (by simp) _).setCell (by simp) _).setCell (by simp) _).setCell (by simp) _).setCell (by simp) _).setCell (by simp) _
end Go.Proofs.Ythoaocjeladbkaa
