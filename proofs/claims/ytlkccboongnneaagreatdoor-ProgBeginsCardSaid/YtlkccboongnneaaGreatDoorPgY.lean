/- A child's next action. -/
import Derived.Test.YtlkccboongnneaaGreatDoorPgX
namespace Go.Proofs.YtlkccboongnneaaGreatDoor
open Go.RowKit
set_option linter.unusedVariables false
/-- A value of an action. -/
def NextEnd (w : World) (a : AC) (e : Ending) (w' : World) : Prop := ∃ D dn dc, e = .returned (.agg #[.int .i64 a.kind, .int .i64 a.fd, .int .i64 a.n, .slice D dn dc, .int .i64 a.status]) ∧ Reads w' w'.heap.size 1 D dn (bv a.data) ∧ dn ≤ dc ∧ Below w.heap.size w w'
/-- Behind the clone: a run of one's own. -/
theorem run_new {B : Nat} {w : World} {p : PR} {s : PS} (ho : OwP B w p s) (hB : B ≤ w.heap.size) : RunAt B w.heap.size p s (w.alloc (.cells #[Value.int .i64 p.pid, .string ⟨p.prog.toArray⟩, .slice s.A s.an s.ac, .slice s.E s.en s.ec, .slice s.F s.fn s.fc, .bool p.done, .int .i64 p.status, .int .i64 p.phase, .int .i64 p.count, .slice s.D s.dn s.dc] 70)) :=
  ⟨Blk.new w 70 _, ho.below ((Below.refl _ _).alloc (Nat.le_refl _) _), hB⟩
theorem five_ {w : World} {g : Nat} {t : TypeId} {x y z u v : Value} (h : Blk w g t #[x, y, z, u, v]) :
    w.cell? ⟨g, 0, none⟩ = some x ∧ w.cell? ⟨g, 1, none⟩ = some y ∧ w.cell? ⟨g, 2, none⟩ = some z ∧ w.cell? ⟨g, 3, none⟩ = some u ∧ w.cell? ⟨g, 4, none⟩ = some v ∧
    w.frozen? ⟨g, 0, none⟩ = false ∧ w.frozen? ⟨g, 1, none⟩ = false ∧ w.frozen? ⟨g, 2, none⟩ = false ∧ w.frozen? ⟨g, 3, none⟩ = false ∧ w.frozen? ⟨g, 4, none⟩ = false :=
  ⟨h.cell 0, h.cell 1, h.cell 2, h.cell 3, h.cell 4, h.frozen 0, h.frozen 1, h.frozen 2, h.frozen 3, h.frozen 4⟩
set_option maxRecDepth 100000 in
set_option maxHeartbeats 8000000 in
theorem next_any (p : PR) (s : PS) (w : World) (hI : InP w w.heap.size p s) (hn : s.an ≤ 1000000 ∧ s.en ≤ 1000000 ∧ s.fn ≤ 1000000 ∧ s.dn ≤ 1000000) (hf : FitP p) (hS : StB w.heap.size w) (hj : (Lib.join p.args.tail [32]).length ≤ 400000) (ht : toldB p.prog) :
    Calls Tryz.prog 20 #[p.v s] w (NextEnd w (nextP p)) := by
  have hdone := hide hf.done
  have hz := hide hf
  rw [show p.v s = .agg #[Value.int .i64 p.pid, .string ⟨p.prog.toArray⟩, .slice s.A s.an s.ac, .slice s.E s.en s.ec, .slice s.F s.fn s.fc, .bool p.done, .int .i64 p.status, .int .i64 p.phase, .int .i64 p.count, .slice s.D s.dn s.dc] from rfl]
  go_enter Tryz.func20, Tryz.ntmps20
  go_wp2_with fail
  generalize hW1 : ((w.alloc (.cells #[Value.int .i64 p.pid, .string ⟨p.prog.toArray⟩, .slice s.A s.an s.ac, .slice s.E s.en s.ec, .slice s.F s.fn s.fc, .bool p.done, .int .i64 p.status, .int .i64 p.phase, .int .i64 p.count, .slice s.D s.dn s.dc] 26)).alloc (.cells #[Value.int .i64 0, .int .i64 0, .int .i64 0, .slice none 0 0, .int .i64 0] 53)) = W1
  have hA1 : Blk W1 (w.heap.size + 1) 53 #[Value.int .i64 0, .int .i64 0, .int .i64 0, .slice none 0 0, .int .i64 0] := by
    rw [← hW1]
    have h1 := Blk.new (w.alloc (.cells #[Value.int .i64 p.pid, .string ⟨p.prog.toArray⟩, .slice s.A s.an s.ac, .slice s.E s.en s.ec, .slice s.F s.fn s.fc, .bool p.done, .int .i64 p.status, .int .i64 p.phase, .int .i64 p.count, .slice s.D s.dn s.dc] 26)) 53 #[Value.int .i64 0, .int .i64 0, .int .i64 0, .slice none 0 0, .int .i64 0]
    simpa only [World.size_alloc] using h1
  have hb0 : Below w.heap.size w W1 := by rw [← hW1]; exact ((Below.refl _ _).alloc (Nat.le_refl _) _).alloc (by simp) _
  have hsz : W1.heap.size = w.heap.size + 2 := by rw [← hW1]; simp
  have XC0 := cproc_any p s W1 ((hI.below hb0).more (by omega)) hn
  simp only [PR.v, PR.cells] at XC0
  have XC := hide XC0
  clear XC0
  have HB0 := hide hb0
  have HS0 := hide (hS.keep hb0)
  clear hW1 hb0 hI hS hn hf
  refine XC.out.mono ?_
  rintro e w2 ⟨s', rfl, ho, -, -, -, hd, hb⟩
  have H3 := hide (run_new ho hb.size)
  have HA3 := hide ((hA1.below hb hA1.lt).alloc (.cells #[Value.int .i64 p.pid, .string ⟨p.prog.toArray⟩, .slice s'.A s'.an s'.ac, .slice s'.E s'.en s'.ec, .slice s'.F s'.fn s'.fc, .bool p.done, .int .i64 p.status, .int .i64 p.phase, .int .i64 p.count, .slice s'.D s'.dn s'.dc] 70))
  have HB3 : Hid (Below W1.heap.size W1 (w2.alloc (.cells #[Value.int .i64 p.pid, .string ⟨p.prog.toArray⟩, .slice s'.A s'.an s'.ac, .slice s'.E s'.en s'.ec, .slice s'.F s'.fn s'.fc, .bool p.done, .int .i64 p.status, .int .i64 p.phase, .int .i64 p.count, .slice s'.D s'.dn s'.dc] 70))) := hide (hb.alloc hb.size _)
  have hg3 : w2.heap.size < (w2.alloc (.cells #[Value.int .i64 p.pid, .string ⟨p.prog.toArray⟩, .slice s'.A s'.an s'.ac, .slice s'.E s'.en s'.ec, .slice s'.F s'.fn s'.fc, .bool p.done, .int .i64 p.status, .int .i64 p.phase, .int .i64 p.count, .slice s'.D s'.dn s'.dc] 70)).heap.size := by simp
  have hsz2 : W1.heap.size ≤ w2.heap.size := hb.size
  clear ho hd hb XC hA1
  obtain ⟨w3, hw3⟩ : ∃ W, w2.alloc (.cells #[Value.int .i64 p.pid, .string ⟨p.prog.toArray⟩, .slice s'.A s'.an s'.ac, .slice s'.E s'.en s'.ec, .slice s'.F s'.fn s'.fc, .bool p.done, .int .i64 p.status, .int .i64 p.phase, .int .i64 p.count, .slice s'.D s'.dn s'.dc] 70) = W := ⟨_, rfl⟩
  rw [hw3] at H3 HA3 HB3 hg3
  have HS3 : Hid (StB W1.heap.size w3) := hide ((HS0.out.more (by omega)).keep HB3.out)
  clear HS0
  obtain ⟨⟨c0, c1, c2, c3, c4, c5, c6, c7, c8, c9⟩, f0, f1, f2, f3, f4, f5, f6, f7, f8, f9⟩ := ten H3.out.blk
  rw [hdone.out] at c5
  by_cases hph : p.phase = 0
  · have XS := hide (start_any W1.heap.size w2.heap.size p s' w3 H3.out (by omega) hz.out HS3.out hj ht)
    have HP := hide hph
    rw [hph] at c7
    clear hph
    go_wp2_with fail
    clear hw3
    refine XS.out.mono ?_
    rintro e w4 ⟨rfl, ⟨s4, h4⟩, hb4⟩
    have H4 := hide h4
    have HA4 := hide (Blk.below (h := HA3.out) (hb := hb4) (by omega))
    have HB4 := hide (HB3.out.trans hb4)
    have hg4 : w2.heap.size < w4.heap.size := h4.blk.lt
    obtain ⟨q, hq⟩ : ∃ q, startP p = q := ⟨_, rfl⟩
    have HQ : Hid (begun p = q) := hide (by unfold begun; rw [if_pos HP.out, hq])
    have hqd : Hid (q.done = false) := hide (by rw [← hq]; exact (hz.out.start hj).done)
    rw [hq] at H4
    clear h4 hb4 hq XS HS3 H3 HA3 HB3 c0 c1 c2 c3 c4 c5 c6 c7 c8 c9 f0 f1 f2 f3 f4 f5 f6 f7 f8 f9
    obtain ⟨⟨c0, c1, c2, c3, c4, c5, c6, c7, c8, c9⟩, f0, f1, f2, f3, f4, f5, f6, f7, f8, f9⟩ := ten H4.out.blk
    rw [hqd.out] at c5
    obtain ⟨i0, i1, i2, i3, i4, j0, j1, j2, j3, j4⟩ := five_ HA4.out
    rcases (by omega : q.phase = 4 ∨ q.phase = 2 ∨ q.phase = 3 ∨ (q.phase ≠ 4 ∧ q.phase ≠ 2 ∧ q.phase ≠ 3)) with h4 | h4 | h4 | ⟨h4, h5, h6⟩
    · rw [h4] at c7
      have HN : Hid (nextP p = ⟨3, 0, 0, [], q.status⟩) := hide (by unfold nextP; rw [HQ.out, if_pos h4])
      clear h4
      go_wp2_with fail
      rw [HN.out]
      refine bodyPost_ret (v := .agg #[.int .i64 3, .int .i64 0, .int .i64 0, .slice none 0 0, .int .i64 q.status]) (by simp only [results, Tryz.results20]; go_simp) rfl ⟨none, 0, 0, rfl, ⟨rfl, fun h => absurd h (by omega)⟩, Nat.le_refl _, ?_⟩
      refine HB0.out.trans ?_
      repeat (refine Below.setCell ?_ (by simp) _)
      exact HB4.out.mono (by omega)
    · rw [h4] at c7
      have HN : Hid (nextP p = ⟨2, 1, 0, q.buf, 0⟩) := hide (by unfold nextP; rw [HQ.out, if_neg (by omega), if_pos (by omega)])
      clear h4
      go_wp2_with fail
      rw [HN.out]
      have hOD : Hid (Od (w.heap.size + 2) w4 s4.D s4.dn s4.dc q.buf) := hide (H4.out.own.d.more (by omega))
      refine bodyPost_ret (v := .agg #[.int .i64 2, .int .i64 1, .int .i64 0, .slice s4.D s4.dn s4.dc, .int .i64 0]) (by simp only [results, Tryz.results20]; go_simp) rfl ⟨s4.D, s4.dn, s4.dc, rfl, ?_, hOD.out.le, ?_⟩
      · refine Od.rd (B := w.heap.size + 2) (c := s4.dc) ?_
        repeat (refine Od.far ?_ (by simp) _)
        exact hOD.out
      · refine HB0.out.trans ?_
        repeat (refine Below.setCell ?_ (by simp) _)
        exact HB4.out.mono (by omega)
    · rw [h4] at c7
      have HN : Hid (nextP p = ⟨2, 1, 0, q.buf, 0⟩) := hide (by unfold nextP; rw [HQ.out, if_neg (by omega), if_pos (by omega)])
      clear h4
      go_wp2_with fail
      rw [HN.out]
      have hOD : Hid (Od (w.heap.size + 2) w4 s4.D s4.dn s4.dc q.buf) := hide (H4.out.own.d.more (by omega))
      refine bodyPost_ret (v := .agg #[.int .i64 2, .int .i64 1, .int .i64 0, .slice s4.D s4.dn s4.dc, .int .i64 0]) (by simp only [results, Tryz.results20]; go_simp) rfl ⟨s4.D, s4.dn, s4.dc, rfl, ?_, hOD.out.le, ?_⟩
      · refine Od.rd (B := w.heap.size + 2) (c := s4.dc) ?_
        repeat (refine Od.far ?_ (by simp) _)
        exact hOD.out
      · refine HB0.out.trans ?_
        repeat (refine Below.setCell ?_ (by simp) _)
        exact HB4.out.mono (by omega)
    · have hb4 : (q.phase == 4) = false := beq_eq_false_iff_ne.2 h4
      have hb2 : (q.phase == 2) = false := beq_eq_false_iff_ne.2 h5
      have hb3 : (q.phase == 3) = false := beq_eq_false_iff_ne.2 h6
      have HN : Hid (nextP p = ⟨1, 0, 16, [], 0⟩) := hide (by unfold nextP; rw [HQ.out, if_neg h4, if_neg (by omega)])
      clear h4 h5 h6
      go_wp2_with fail
      rw [HN.out]
      refine bodyPost_ret (v := .agg #[.int .i64 1, .int .i64 0, .int .i64 16, .slice none 0 0, .int .i64 0]) (by simp only [results, Tryz.results20]; go_simp) rfl ⟨none, 0, 0, rfl, ⟨rfl, fun h => absurd h (by omega)⟩, Nat.le_refl _, ?_⟩
      refine HB0.out.trans ?_
      repeat (refine Below.setCell ?_ (by simp) _)
      exact HB4.out.mono (by omega)
  · have hpb : (p.phase == 0) = false := beq_eq_false_iff_ne.2 hph
    have HQ : Hid (begun p = p) := hide (by unfold begun; rw [if_neg hph])
    have H4 := H3
    have HB4 := HB3
    have hg4 : w2.heap.size < w3.heap.size := hg3
    obtain ⟨i0, i1, i2, i3, i4, j0, j1, j2, j3, j4⟩ := five_ HA3.out
    clear hph
    rcases (by omega : p.phase = 4 ∨ p.phase = 2 ∨ p.phase = 3 ∨ (p.phase ≠ 4 ∧ p.phase ≠ 2 ∧ p.phase ≠ 3)) with h4 | h4 | h4 | ⟨h4, h5, h6⟩
    · rw [h4] at c7
      have HN : Hid (nextP p = ⟨3, 0, 0, [], p.status⟩) := hide (by unfold nextP; rw [HQ.out, if_pos h4])
      clear h4
      go_wp2_with fail
      rw [HN.out]
      refine bodyPost_ret (v := .agg #[.int .i64 3, .int .i64 0, .int .i64 0, .slice none 0 0, .int .i64 p.status]) (by simp only [results, Tryz.results20]; go_simp) rfl ⟨none, 0, 0, rfl, ⟨rfl, fun h => absurd h (by omega)⟩, Nat.le_refl _, ?_⟩
      refine HB0.out.trans ?_
      repeat (refine Below.setCell ?_ (by simp) _)
      exact HB4.out.mono (by omega)
    · rw [h4] at c7
      have HN : Hid (nextP p = ⟨2, 1, 0, p.buf, 0⟩) := hide (by unfold nextP; rw [HQ.out, if_neg (by omega), if_pos (by omega)])
      clear h4
      go_wp2_with fail
      rw [HN.out]
      have hOD : Hid (Od (w.heap.size + 2) w3 s'.D s'.dn s'.dc p.buf) := hide (H4.out.own.d.more (by omega))
      refine bodyPost_ret (v := .agg #[.int .i64 2, .int .i64 1, .int .i64 0, .slice s'.D s'.dn s'.dc, .int .i64 0]) (by simp only [results, Tryz.results20]; go_simp) rfl ⟨s'.D, s'.dn, s'.dc, rfl, ?_, hOD.out.le, ?_⟩
      · refine Od.rd (B := w.heap.size + 2) (c := s'.dc) ?_
        repeat (refine Od.far ?_ (by simp) _)
        exact hOD.out
      · refine HB0.out.trans ?_
        repeat (refine Below.setCell ?_ (by simp) _)
        exact HB4.out.mono (by omega)
    · rw [h4] at c7
      have HN : Hid (nextP p = ⟨2, 1, 0, p.buf, 0⟩) := hide (by unfold nextP; rw [HQ.out, if_neg (by omega), if_pos (by omega)])
      clear h4
      go_wp2_with fail
      rw [HN.out]
      have hOD : Hid (Od (w.heap.size + 2) w3 s'.D s'.dn s'.dc p.buf) := hide (H4.out.own.d.more (by omega))
      refine bodyPost_ret (v := .agg #[.int .i64 2, .int .i64 1, .int .i64 0, .slice s'.D s'.dn s'.dc, .int .i64 0]) (by simp only [results, Tryz.results20]; go_simp) rfl ⟨s'.D, s'.dn, s'.dc, rfl, ?_, hOD.out.le, ?_⟩
      · refine Od.rd (B := w.heap.size + 2) (c := s'.dc) ?_
        repeat (refine Od.far ?_ (by simp) _)
        exact hOD.out
      · refine HB0.out.trans ?_
        repeat (refine Below.setCell ?_ (by simp) _)
        exact HB4.out.mono (by omega)
    · have hb4 : (p.phase == 4) = false := beq_eq_false_iff_ne.2 h4
      have hb2 : (p.phase == 2) = false := beq_eq_false_iff_ne.2 h5
      have hb3 : (p.phase == 3) = false := beq_eq_false_iff_ne.2 h6
      have HN : Hid (nextP p = ⟨1, 0, 16, [], 0⟩) := hide (by unfold nextP; rw [HQ.out, if_neg h4, if_neg (by omega)])
      clear h4 h5 h6
      go_wp2_with fail
      rw [HN.out]
      refine bodyPost_ret (v := .agg #[.int .i64 1, .int .i64 0, .int .i64 16, .slice none 0 0, .int .i64 0]) (by simp only [results, Tryz.results20]; go_simp) rfl ⟨none, 0, 0, rfl, ⟨rfl, fun h => absurd h (by omega)⟩, Nat.le_refl _, ?_⟩
      refine HB0.out.trans ?_
      repeat (refine Below.setCell ?_ (by simp) _)
      exact HB4.out.mono (by omega)
end Go.Proofs.YtlkccboongnneaaGreatDoor
