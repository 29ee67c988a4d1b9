/- A child after its action. -/
import Derived.Test.YtlkccboongnneaaGreatDoorPgY
namespace Go.Proofs.YtlkccboongnneaaGreatDoor
open Go.RowKit
set_option linter.unusedVariables false
def AfterEnd (w : World) (q : PR) (e : Ending) (w' : World) : Prop := ∃ s', e = .returned (q.v s') ∧ OwP w.heap.size w' q s' ∧ Below w.heap.size w w'
set_option maxRecDepth 100000 in
set_option maxHeartbeats 16000000 in
theorem after_any (p : PR) (s : PS) (n : Nat) (E : Option Addr) (en ec : Nat) (d : Bs) (w : World) (hI : InP w w.heap.size p s) (hn : s.an ≤ 1000000 ∧ s.en ≤ 1000000 ∧ s.fn ≤ 1000000 ∧ s.dn ≤ 1000000) (hf : FitP p) (hS : StB w.heap.size w) (hj : (Lib.join p.args.tail [32]).length ≤ 400000) (ht : toldB p.prog)
    (hd0 : Reads w w.heap.size 1 E en (bv d)) (hen : en ≤ 400000) (hn1 : n ≤ 1000000) (hy : p.prog ≠ nYes) :
    Calls Tryz.prog 21 #[p.v s, .int .i64 0, .int .i64 (n : Int), .slice E en ec] w (AfterEnd w (afterP p n d)) := by
  have hdone := hide hf.done
  have hz := hide hf
  rw [show p.v s = .agg #[Value.int .i64 p.pid, .string ⟨p.prog.toArray⟩, .slice s.A s.an s.ac, .slice s.E s.en s.ec, .slice s.F s.fn s.fc, .bool p.done, .int .i64 p.status, .int .i64 p.phase, .int .i64 p.count, .slice s.D s.dn s.dc] from rfl]
  go_enter Tryz.func21, Tryz.ntmps21
  go_wp2_with fail
  generalize hW1 : ((w.alloc (.cells #[Value.int .i64 p.pid, .string ⟨p.prog.toArray⟩, .slice s.A s.an s.ac, .slice s.E s.en s.ec, .slice s.F s.fn s.fc, .bool p.done, .int .i64 p.status, .int .i64 p.phase, .int .i64 p.count, .slice s.D s.dn s.dc] 26)).alloc (.cells #[Value.int .i64 0, .string ⟨#[]⟩, .slice none 0 0, .slice none 0 0, .slice none 0 0, .bool false, .int .i64 0, .int .i64 0, .int .i64 0, .slice none 0 0] 26)) = W1
  have hA1 : Blk W1 (w.heap.size + 1) 26 #[Value.int .i64 0, .string ⟨#[]⟩, .slice none 0 0, .slice none 0 0, .slice none 0 0, .bool false, .int .i64 0, .int .i64 0, .int .i64 0, .slice none 0 0] := by
    rw [← hW1]
    have h1 := Blk.new (w.alloc (.cells #[Value.int .i64 p.pid, .string ⟨p.prog.toArray⟩, .slice s.A s.an s.ac, .slice s.E s.en s.ec, .slice s.F s.fn s.fc, .bool p.done, .int .i64 p.status, .int .i64 p.phase, .int .i64 p.count, .slice s.D s.dn s.dc] 26)) 26 #[Value.int .i64 0, .string ⟨#[]⟩, .slice none 0 0, .slice none 0 0, .slice none 0 0, .bool false, .int .i64 0, .int .i64 0, .int .i64 0, .slice none 0 0]
    simpa only [World.size_alloc] using h1
  have hb0 : Below w.heap.size w W1 := by rw [← hW1]; exact ((Below.refl _ _).alloc (Nat.le_refl _) _).alloc (by simp) _
  have hsz : W1.heap.size = w.heap.size + 2 := by rw [← hW1]; simp
  have XC0 := cproc_any p s W1 ((hI.below hb0).more (by omega)) hn
  simp only [PR.v, PR.cells] at XC0
  have XC := hide XC0
  clear XC0
  have HB0 := hide hb0
  have HS0 := hide (hS.keep hb0)
  have HE1 := hide ((hd0.below hb0).more (show w.heap.size ≤ W1.heap.size by omega))
  clear hd0
  clear hW1 hb0 hI hS hn hf
  refine XC.out.mono ?_
  rintro e w2 ⟨s', rfl, ho, -, -, -, hd, hb⟩
  have H3 := hide (run_new ho hb.size)
  have HA3 := hide ((hA1.below hb hA1.lt).alloc (.cells #[Value.int .i64 p.pid, .string ⟨p.prog.toArray⟩, .slice s'.A s'.an s'.ac, .slice s'.E s'.en s'.ec, .slice s'.F s'.fn s'.fc, .bool p.done, .int .i64 p.status, .int .i64 p.phase, .int .i64 p.count, .slice s'.D s'.dn s'.dc] 70))
  have HB3 : Hid (Below W1.heap.size W1 (w2.alloc (.cells #[Value.int .i64 p.pid, .string ⟨p.prog.toArray⟩, .slice s'.A s'.an s'.ac, .slice s'.E s'.en s'.ec, .slice s'.F s'.fn s'.fc, .bool p.done, .int .i64 p.status, .int .i64 p.phase, .int .i64 p.count, .slice s'.D s'.dn s'.dc] 70))) := hide (hb.alloc hb.size _)
  have hg3 : w2.heap.size < (w2.alloc (.cells #[Value.int .i64 p.pid, .string ⟨p.prog.toArray⟩, .slice s'.A s'.an s'.ac, .slice s'.E s'.en s'.ec, .slice s'.F s'.fn s'.fc, .bool p.done, .int .i64 p.status, .int .i64 p.phase, .int .i64 p.count, .slice s'.D s'.dn s'.dc] 70)).heap.size := by simp
  have hsz2 : W1.heap.size ≤ w2.heap.size := hb.size
  have HE3 := hide ((HE1.out.below hb).alloc hb.size (.cells #[Value.int .i64 p.pid, .string ⟨p.prog.toArray⟩, .slice s'.A s'.an s'.ac, .slice s'.E s'.en s'.ec, .slice s'.F s'.fn s'.fc, .bool p.done, .int .i64 p.status, .int .i64 p.phase, .int .i64 p.count, .slice s'.D s'.dn s'.dc] 70))
  clear ho hd hb XC hA1 HE1
  obtain ⟨w3, hw3⟩ : ∃ W, w2.alloc (.cells #[Value.int .i64 p.pid, .string ⟨p.prog.toArray⟩, .slice s'.A s'.an s'.ac, .slice s'.E s'.en s'.ec, .slice s'.F s'.fn s'.fc, .bool p.done, .int .i64 p.status, .int .i64 p.phase, .int .i64 p.count, .slice s'.D s'.dn s'.dc] 70) = W := ⟨_, rfl⟩
  rw [hw3] at H3 HA3 HB3 hg3 HE3
  have HS3 : Hid (StB W1.heap.size w3) := hide ((HS0.out.more (by omega)).keep HB3.out)
  clear HS0
  obtain ⟨⟨c0, c1, c2, c3, c4, c5, c6, c7, c8, c9⟩, f0, f1, f2, f3, f4, f5, f6, f7, f8, f9⟩ := ten H3.out.blk
  rw [hdone.out] at c5
  by_cases h4 : p.phase = 4
  · rw [h4] at c7
    have HN : Hid (afterP p n d = p) := hide (by unfold afterP; rw [if_pos h4])
    have H4 := H3
    obtain ⟨⟨i0, i1, i2, i3, i4, i5, i6, i7, i8, i9⟩, j0, j1, j2, j3, j4, j5, j6, j7, j8, j9⟩ := ten HA3.out
    have hp4 : Hid (p = { p with phase := 4, done := false }) := hide (by have e1 := hdone.out; cases p; simp at *; exact ⟨e1, h4⟩)
    clear h4
    go_wp2_with fail
    rw [HN.out]
    have hOW : Hid (OwP (w.heap.size + 2) w3 p s') := hide (H4.out.own.more (by omega))
    refine bodyPost_ret (v := PR.v { p with phase := 4, done := false } s') (by simp only [results, Tryz.results21]; go_simp; rfl) rfl ⟨s', by rw [← hp4.out], ?_, ?_⟩
    · refine OwP.more (B := w.heap.size + 2) ?_ (by omega)
      repeat (refine OwP.far ?_ (by simp) _)
      exact hOW.out
    · refine HB0.out.trans ?_
      repeat (refine Below.setCell ?_ (by simp) _)
      exact HB3.out.mono (by omega)
  · have hp4b : (p.phase == 4) = false := beq_eq_false_iff_ne.2 h4
    have HPN := hide h4
    by_cases hph : p.phase = 0
    · have XS := hide (start_any W1.heap.size w2.heap.size p s' w3 H3.out (by omega) hz.out HS3.out hj ht)
      have HP := hide hph
      rw [hph] at c7
      clear hph h4 hp4b
      go_wp2_with fail
      clear hw3
      refine XS.out.mono ?_
      rintro e w4 ⟨rfl, ⟨s4, h4⟩, hb4⟩
      have H4 := hide h4
      have HA4 := hide (Blk.below (h := HA3.out) (hb := hb4) (by omega))
      have HB4 := hide (HB3.out.trans hb4)
      have HE4 := hide (HE3.out.below hb4)
      have HS4 := hide (HS3.out.keep hb4)
      have hg4 : w2.heap.size < w4.heap.size := h4.blk.lt
      obtain ⟨q, hq⟩ : ∃ q, startP p = q := ⟨_, rfl⟩
      have HQ : Hid (begun p = q) := hide (by unfold begun; rw [if_pos HP.out, hq])
      have hqf : Hid (FitP q) := hide (by rw [← hq]; exact hz.out.start hj)
      have hqy : Hid (q.prog ≠ nYes) := hide (by rw [← hq, (start_same p).1]; exact hy)
      rw [hq] at H4
      clear h4 hb4 hq XS HS3 H3 HA3 HB3 HE3 c0 c1 c2 c3 c4 c5 c6 c7 c8 c9 f0 f1 f2 f3 f4 f5 f6 f7 f8 f9
      obtain ⟨⟨c0, c1, c2, c3, c4, c5, c6, c7, c8, c9⟩, f0, f1, f2, f3, f4, f5, f6, f7, f8, f9⟩ := ten H4.out.blk
      obtain ⟨⟨i0, i1, i2, i3, i4, i5, i6, i7, i8, i9⟩, j0, j1, j2, j3, j4, j5, j6, j7, j8, j9⟩ := ten HA4.out
      by_cases hq4 : q.phase = 4
      · have HN : Hid (afterP p n d = q) := hide (by unfold afterP; rw [if_neg HPN.out, HQ.out, if_pos hq4])
        have hqq : Hid (q = { q with phase := 4 }) := hide (by cases q; simp at *; exact hq4)
        rw [hq4] at c7
        clear hq4
        go_wp2_with fail
        rw [HN.out]
        have hOW : Hid (OwP (w.heap.size + 2) w4 q s4) := hide (H4.out.own.more (by omega))
        refine bodyPost_ret (v := PR.v { q with phase := 4 } s4) (by simp only [results, Tryz.results21]; go_simp; rfl) rfl ⟨s4, by rw [← hqq.out], ?_, ?_⟩
        · refine OwP.more (B := w.heap.size + 2) ?_ (by omega)
          repeat (refine OwP.far ?_ (by simp) _)
          exact hOW.out
        · refine HB0.out.trans ?_
          repeat (refine Below.setCell ?_ (by simp) _)
          exact HB4.out.mono (by omega)
      · have hb4 : (q.phase == 4) = false := beq_eq_false_iff_ne.2 hq4
        have HQ4 := hide hq4
        clear hq4
        rcases (by omega : q.phase = 2 ∨ q.phase = 3 ∨ (q.phase ≠ 2 ∧ q.phase ≠ 3)) with h2 | h2 | ⟨h2, h3⟩
        · rw [h2] at c7
          have HN : Hid (afterP p n d = wroteP q n) := hide (by unfold afterP; rw [if_neg HPN.out, HQ.out, if_neg (by omega), if_pos (by omega)])
          have XW := hide (wrote_any W1.heap.size w2.heap.size q s4 n w4 H4.out hqf.out.d hn1 (by omega) hqy.out)
          clear h2 hb4
          go_wp2_with fail
          refine XW.out.mono ?_
          rintro e w5 ⟨rfl, ⟨s5, h5⟩, hb5⟩
          have H5 := hide h5
          have HA5 := hide (Blk.below (h := HA4.out) (hb := hb5) (by omega))
          have HB5 := hide (HB4.out.trans hb5)
          have hg5 : w2.heap.size < w5.heap.size := h5.blk.lt
          obtain ⟨q5, hq5⟩ : ∃ z, wroteP q n = z := ⟨_, rfl⟩
          rw [hq5] at H5
          have HQ5 := hide hq5
          clear h5 hb5 XW hq5 c0 c1 c2 c3 c4 c5 c6 c7 c8 c9 f0 f1 f2 f3 f4 f5 f6 f7 f8 f9 i0 i1 i2 i3 i4 i5 i6 i7 i8 i9 j0 j1 j2 j3 j4 j5 j6 j7 j8 j9
          obtain ⟨⟨c0, c1, c2, c3, c4, c5, c6, c7, c8, c9⟩, f0, f1, f2, f3, f4, f5, f6, f7, f8, f9⟩ := ten H5.out.blk
          obtain ⟨⟨i0, i1, i2, i3, i4, i5, i6, i7, i8, i9⟩, j0, j1, j2, j3, j4, j5, j6, j7, j8, j9⟩ := ten HA5.out
          go_wp2_with fail
          rw [HN.out, HQ5.out]
          have hOW : Hid (OwP (w.heap.size + 2) w5 q5 s5) := hide (H5.out.own.more (by omega))
          refine bodyPost_ret (v := PR.v q5 s5) (by simp only [results, Tryz.results21]; go_simp; rfl) rfl ⟨s5, rfl, ?_, ?_⟩
          · refine OwP.more (B := w.heap.size + 2) ?_ (by omega)
            repeat (refine OwP.far ?_ (by simp) _)
            exact hOW.out
          · refine HB0.out.trans ?_
            repeat (refine Below.setCell ?_ (by simp) _)
            exact HB5.out.mono (by omega)
        · rw [h2] at c7
          have HN : Hid (afterP p n d = wroteP q n) := hide (by unfold afterP; rw [if_neg HPN.out, HQ.out, if_neg (by omega), if_pos (by omega)])
          have XW := hide (wrote_any W1.heap.size w2.heap.size q s4 n w4 H4.out hqf.out.d hn1 (by omega) hqy.out)
          clear h2 hb4
          go_wp2_with fail
          refine XW.out.mono ?_
          rintro e w5 ⟨rfl, ⟨s5, h5⟩, hb5⟩
          have H5 := hide h5
          have HA5 := hide (Blk.below (h := HA4.out) (hb := hb5) (by omega))
          have HB5 := hide (HB4.out.trans hb5)
          have hg5 : w2.heap.size < w5.heap.size := h5.blk.lt
          obtain ⟨q5, hq5⟩ : ∃ z, wroteP q n = z := ⟨_, rfl⟩
          rw [hq5] at H5
          have HQ5 := hide hq5
          clear h5 hb5 XW hq5 c0 c1 c2 c3 c4 c5 c6 c7 c8 c9 f0 f1 f2 f3 f4 f5 f6 f7 f8 f9 i0 i1 i2 i3 i4 i5 i6 i7 i8 i9 j0 j1 j2 j3 j4 j5 j6 j7 j8 j9
          obtain ⟨⟨c0, c1, c2, c3, c4, c5, c6, c7, c8, c9⟩, f0, f1, f2, f3, f4, f5, f6, f7, f8, f9⟩ := ten H5.out.blk
          obtain ⟨⟨i0, i1, i2, i3, i4, i5, i6, i7, i8, i9⟩, j0, j1, j2, j3, j4, j5, j6, j7, j8, j9⟩ := ten HA5.out
          go_wp2_with fail
          rw [HN.out, HQ5.out]
          have hOW : Hid (OwP (w.heap.size + 2) w5 q5 s5) := hide (H5.out.own.more (by omega))
          refine bodyPost_ret (v := PR.v q5 s5) (by simp only [results, Tryz.results21]; go_simp; rfl) rfl ⟨s5, rfl, ?_, ?_⟩
          · refine OwP.more (B := w.heap.size + 2) ?_ (by omega)
            repeat (refine OwP.far ?_ (by simp) _)
            exact hOW.out
          · refine HB0.out.trans ?_
            repeat (refine Below.setCell ?_ (by simp) _)
            exact HB5.out.mono (by omega)
        · have hb2 : (q.phase == 2) = false := beq_eq_false_iff_ne.2 h2
          have hb3 : (q.phase == 3) = false := beq_eq_false_iff_ne.2 h3
          have HN : Hid (afterP p n d = readP q d) := hide (by unfold afterP; rw [if_neg HPN.out, HQ.out, if_neg HQ4.out, if_neg (by omega)])
          have XL := hide (Dk.list_any E en ec d w4 (HE4.out.more (by omega)) (by omega))
          clear h2 h3
          go_wp2_with fail
          refine XL.out.mono ?_
          rintro e w5 ⟨D5, dc5, rfl, ho5, hb5⟩
          have H5 := hide (H4.out.below hb5)
          have HA5 := hide (Blk.below (h := HA4.out) (hb := hb5) (by omega))
          have HB5 := hide (HB4.out.trans (hb5.mono (by omega)))
          have HO5 := hide ((Od.of ho5).more (show W1.heap.size ≤ w4.heap.size by omega))
          have HS5 := hide (HS4.out.keep (hb5.mono (by omega)))
          have hs5 : w4.heap.size ≤ w5.heap.size := hb5.size
          have XR := hide (read_any W1.heap.size w2.heap.size q s4 D5 en dc5 d w5 H5.out HO5.out hen (by omega) hqf.out HS5.out)
          clear XL ho5 hb5 hb4 c0 c1 c2 c3 c4 c5 c6 c7 c8 c9 f0 f1 f2 f3 f4 f5 f6 f7 f8 f9 i0 i1 i2 i3 i4 i5 i6 i7 i8 i9 j0 j1 j2 j3 j4 j5 j6 j7 j8 j9
          go_wp2_with fail
          refine XR.out.mono ?_
          rintro e w6 ⟨rfl, ⟨s6, h6⟩, hb6⟩
          have H6 := hide h6
          have HA6 := hide (Blk.below (h := HA5.out) (hb := hb6) (by omega))
          have HB6 := hide (HB5.out.trans hb6)
          have hg6 : w2.heap.size < w6.heap.size := h6.blk.lt
          obtain ⟨q6, hq6⟩ : ∃ z, readP q d = z := ⟨_, rfl⟩
          rw [hq6] at H6
          have HQ6 := hide hq6
          clear h6 hb6 XR hq6
          obtain ⟨⟨c0, c1, c2, c3, c4, c5, c6, c7, c8, c9⟩, f0, f1, f2, f3, f4, f5, f6, f7, f8, f9⟩ := ten H6.out.blk
          obtain ⟨⟨i0, i1, i2, i3, i4, i5, i6, i7, i8, i9⟩, j0, j1, j2, j3, j4, j5, j6, j7, j8, j9⟩ := ten HA6.out
          go_wp2_with fail
          rw [HN.out, HQ6.out]
          have hOW : Hid (OwP (w.heap.size + 2) w6 q6 s6) := hide (H6.out.own.more (by omega))
          refine bodyPost_ret (v := PR.v q6 s6) (by simp only [results, Tryz.results21]; go_simp; rfl) rfl ⟨s6, rfl, ?_, ?_⟩
          · refine OwP.more (B := w.heap.size + 2) ?_ (by omega)
            repeat (refine OwP.far ?_ (by simp) _)
            exact hOW.out
          · refine HB0.out.trans ?_
            repeat (refine Below.setCell ?_ (by simp) _)
            exact HB6.out.mono (by omega)
    · have hpb : (p.phase == 0) = false := beq_eq_false_iff_ne.2 hph
      have HQ : Hid (begun p = p) := hide (by unfold begun; rw [if_neg hph])
      have H4 := H3
      have HA4 := HA3
      have HB4 := HB3
      have HE4 := HE3
      have HS4 := HS3
      have hqf := hz
      have hqy := hide hy
      have hb4 := hp4b
      have HQ4 := HPN
      have hg4 : w2.heap.size < w3.heap.size := hg3
      obtain ⟨⟨i0, i1, i2, i3, i4, i5, i6, i7, i8, i9⟩, j0, j1, j2, j3, j4, j5, j6, j7, j8, j9⟩ := ten HA3.out
      clear hph h4
      rcases (by omega : p.phase = 2 ∨ p.phase = 3 ∨ (p.phase ≠ 2 ∧ p.phase ≠ 3)) with h2 | h2 | ⟨h2, h3⟩
      · rw [h2] at c7
        have HN : Hid (afterP p n d = wroteP p n) := hide (by unfold afterP; rw [if_neg HPN.out, HQ.out, if_neg (by omega), if_pos (by omega)])
        have XW := hide (wrote_any W1.heap.size w2.heap.size p s' n w3 H4.out hqf.out.d hn1 (by omega) hqy.out)
        clear h2 hb4
        go_wp2_with fail
        refine XW.out.mono ?_
        rintro e w5 ⟨rfl, ⟨s5, h5⟩, hb5⟩
        have H5 := hide h5
        have HA5 := hide (Blk.below (h := HA4.out) (hb := hb5) (by omega))
        have HB5 := hide (HB4.out.trans hb5)
        have hg5 : w2.heap.size < w5.heap.size := h5.blk.lt
        obtain ⟨q5, hq5⟩ : ∃ z, wroteP p n = z := ⟨_, rfl⟩
        rw [hq5] at H5
        have HQ5 := hide hq5
        clear h5 hb5 XW hq5 c0 c1 c2 c3 c4 c5 c6 c7 c8 c9 f0 f1 f2 f3 f4 f5 f6 f7 f8 f9 i0 i1 i2 i3 i4 i5 i6 i7 i8 i9 j0 j1 j2 j3 j4 j5 j6 j7 j8 j9
        obtain ⟨⟨c0, c1, c2, c3, c4, c5, c6, c7, c8, c9⟩, f0, f1, f2, f3, f4, f5, f6, f7, f8, f9⟩ := ten H5.out.blk
        obtain ⟨⟨i0, i1, i2, i3, i4, i5, i6, i7, i8, i9⟩, j0, j1, j2, j3, j4, j5, j6, j7, j8, j9⟩ := ten HA5.out
        go_wp2_with fail
        rw [HN.out, HQ5.out]
        have hOW : Hid (OwP (w.heap.size + 2) w5 q5 s5) := hide (H5.out.own.more (by omega))
        refine bodyPost_ret (v := PR.v q5 s5) (by simp only [results, Tryz.results21]; go_simp; rfl) rfl ⟨s5, rfl, ?_, ?_⟩
        · refine OwP.more (B := w.heap.size + 2) ?_ (by omega)
          repeat (refine OwP.far ?_ (by simp) _)
          exact hOW.out
        · refine HB0.out.trans ?_
          repeat (refine Below.setCell ?_ (by simp) _)
          exact HB5.out.mono (by omega)
      · rw [h2] at c7
        have HN : Hid (afterP p n d = wroteP p n) := hide (by unfold afterP; rw [if_neg HPN.out, HQ.out, if_neg (by omega), if_pos (by omega)])
        have XW := hide (wrote_any W1.heap.size w2.heap.size p s' n w3 H4.out hqf.out.d hn1 (by omega) hqy.out)
        clear h2 hb4
        go_wp2_with fail
        refine XW.out.mono ?_
        rintro e w5 ⟨rfl, ⟨s5, h5⟩, hb5⟩
        have H5 := hide h5
        have HA5 := hide (Blk.below (h := HA4.out) (hb := hb5) (by omega))
        have HB5 := hide (HB4.out.trans hb5)
        have hg5 : w2.heap.size < w5.heap.size := h5.blk.lt
        obtain ⟨q5, hq5⟩ : ∃ z, wroteP p n = z := ⟨_, rfl⟩
        rw [hq5] at H5
        have HQ5 := hide hq5
        clear h5 hb5 XW hq5 c0 c1 c2 c3 c4 c5 c6 c7 c8 c9 f0 f1 f2 f3 f4 f5 f6 f7 f8 f9 i0 i1 i2 i3 i4 i5 i6 i7 i8 i9 j0 j1 j2 j3 j4 j5 j6 j7 j8 j9
        obtain ⟨⟨c0, c1, c2, c3, c4, c5, c6, c7, c8, c9⟩, f0, f1, f2, f3, f4, f5, f6, f7, f8, f9⟩ := ten H5.out.blk
        obtain ⟨⟨i0, i1, i2, i3, i4, i5, i6, i7, i8, i9⟩, j0, j1, j2, j3, j4, j5, j6, j7, j8, j9⟩ := ten HA5.out
        go_wp2_with fail
        rw [HN.out, HQ5.out]
        have hOW : Hid (OwP (w.heap.size + 2) w5 q5 s5) := hide (H5.out.own.more (by omega))
        refine bodyPost_ret (v := PR.v q5 s5) (by simp only [results, Tryz.results21]; go_simp; rfl) rfl ⟨s5, rfl, ?_, ?_⟩
        · refine OwP.more (B := w.heap.size + 2) ?_ (by omega)
          repeat (refine OwP.far ?_ (by simp) _)
          exact hOW.out
        · refine HB0.out.trans ?_
          repeat (refine Below.setCell ?_ (by simp) _)
          exact HB5.out.mono (by omega)
      · have hb2 : (p.phase == 2) = false := beq_eq_false_iff_ne.2 h2
        have hb3 : (p.phase == 3) = false := beq_eq_false_iff_ne.2 h3
        have HN : Hid (afterP p n d = readP p d) := hide (by unfold afterP; rw [if_neg HPN.out, HQ.out, if_neg HQ4.out, if_neg (by omega)])
        have XL := hide (Dk.list_any E en ec d w3 (HE4.out.more (by omega)) (by omega))
        clear h2 h3
        go_wp2_with fail
        refine XL.out.mono ?_
        rintro e w5 ⟨D5, dc5, rfl, ho5, hb5⟩
        have H5 := hide (H4.out.below hb5)
        have HA5 := hide (Blk.below (h := HA4.out) (hb := hb5) (by omega))
        have HB5 := hide (HB4.out.trans (hb5.mono (by omega)))
        have HO5 := hide ((Od.of ho5).more (show W1.heap.size ≤ w3.heap.size by omega))
        have HS5 := hide (HS4.out.keep (hb5.mono (by omega)))
        have hs5 : w3.heap.size ≤ w5.heap.size := hb5.size
        have XR := hide (read_any W1.heap.size w2.heap.size p s' D5 en dc5 d w5 H5.out HO5.out hen (by omega) hqf.out HS5.out)
        clear XL ho5 hb5 hb4 c0 c1 c2 c3 c4 c5 c6 c7 c8 c9 f0 f1 f2 f3 f4 f5 f6 f7 f8 f9 i0 i1 i2 i3 i4 i5 i6 i7 i8 i9 j0 j1 j2 j3 j4 j5 j6 j7 j8 j9
        go_wp2_with fail
        refine XR.out.mono ?_
        rintro e w6 ⟨rfl, ⟨s6, h6⟩, hb6⟩
        have H6 := hide h6
        have HA6 := hide (Blk.below (h := HA5.out) (hb := hb6) (by omega))
        have HB6 := hide (HB5.out.trans hb6)
        have hg6 : w2.heap.size < w6.heap.size := h6.blk.lt
        obtain ⟨q6, hq6⟩ : ∃ z, readP p d = z := ⟨_, rfl⟩
        rw [hq6] at H6
        have HQ6 := hide hq6
        clear h6 hb6 XR hq6
        obtain ⟨⟨c0, c1, c2, c3, c4, c5, c6, c7, c8, c9⟩, f0, f1, f2, f3, f4, f5, f6, f7, f8, f9⟩ := ten H6.out.blk
        obtain ⟨⟨i0, i1, i2, i3, i4, i5, i6, i7, i8, i9⟩, j0, j1, j2, j3, j4, j5, j6, j7, j8, j9⟩ := ten HA6.out
        go_wp2_with fail
        rw [HN.out, HQ6.out]
        have hOW : Hid (OwP (w.heap.size + 2) w6 q6 s6) := hide (H6.out.own.more (by omega))
        refine bodyPost_ret (v := PR.v q6 s6) (by simp only [results, Tryz.results21]; go_simp; rfl) rfl ⟨s6, rfl, ?_, ?_⟩
        · refine OwP.more (B := w.heap.size + 2) ?_ (by omega)
          repeat (refine OwP.far ?_ (by simp) _)
          exact hOW.out
        · refine HB0.out.trans ?_
          repeat (refine Below.setCell ?_ (by simp) _)
          exact HB6.out.mono (by omega)
end Go.Proofs.YtlkccboongnneaaGreatDoor
