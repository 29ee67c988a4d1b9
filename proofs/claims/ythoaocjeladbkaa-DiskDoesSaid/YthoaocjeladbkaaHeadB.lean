/- heads: what must come at any rate. -/
import Derived.Test.YthoaocjeladbkaaHeadA
import Derived.Deep.DeepCutAuto
namespace Go.Proofs.Ythoaocjeladbkaa
open Go.RowKit
set_option linter.unusedVariables false

theorem Rc.drew {B : Nat} {w : World} {A : Option Addr} {n c : Nat} {bs : List UInt8} (h : Rc B w A n c bs) : Rc B w.drew A n c bs := World.ownsRow.drew h
theorem blk5b {w : World} {g : Nat} {t : TypeId} {x y z u v : Value} (h : Blk w g t #[x, y, z, u, v]) : w.cell? ⟨g, 0, none⟩ = some x ∧ w.cell? ⟨g, 1, none⟩ = some y ∧ w.cell? ⟨g, 2, none⟩ = some z ∧ w.cell? ⟨g, 3, none⟩ = some u ∧ w.cell? ⟨g, 4, none⟩ = some v := h.five.1
theorem mk8 : ∃ zs : Array Value, zs.toList = bv (List.replicate 8 0) ∧ ∀ W, (Instr.makeSlice 22 (.int .i64 8) (.int .i64 8)).run Try.prog W = .ok (.slice (some ⟨W.heap.size, 0, none⟩) 8 8) (W.alloc (.cells zs 5)) := by
  obtain ⟨i, hi, hz, hs, hb⟩ := info_parts infoU8
  refine ⟨madeCells (Value.int .u8 0).cells (8 * 1), ?_, fun W => ?_⟩
  · unfold madeCells
    simp [Value.cells, Nat.mod_one, bv, List.map_const']
  · have := run_make_rowN (P := Try.prog) 22 5 i _ Try.underlying22 hi hz .i64 .i64 8 8 (by omega) (by omega) (by omega) W
    rw [hs] at this
    exact this
theorem rd_row (W : World) (zs : Array Value) (bs : List UInt8) (n : Nat) (h : zs.toList = bv bs) (hn : bs.length = n) (hm : n ≤ 1000) : Rd (W.alloc (.cells zs 5)) (some ⟨W.heap.size, 0, none⟩) n bs := by
  have hz : zs.size = n := by rw [← Array.length_toList, h, bv_length, hn]
  have := Reads.of_own (Blk.own (base := 0) (cap := n) (Blk.new W 5 zs) (by omega) (by unfold maxLen; omega) hz)
  rwa [h] at this
theorem rd_row1 (W : World) (o : Obj) (zs : Array Value) (bs : List UInt8) (n : Nat) (h : zs.toList = bv bs) (hn : bs.length = n) (hm : n ≤ 1000) : Rd ((W.alloc o).alloc (.cells zs 5)) (some ⟨W.heap.size + 1, 0, none⟩) n bs := by
  have := rd_row (W.alloc o) zs bs n h hn hm
  rwa [World.size_alloc] at this
theorem app8 (A : Option Addr) (c : Nat) (B : Option Addr) (k : Nat) (gz : Nat) (W : World) (hA : Rd W A 3 [1, 2, 3]) (hB : Rd W B 0 []) (hz : Rd W (some ⟨gz, 0, none⟩) 8 (List.replicate 8 0)) :
    Calls Try.prog 9 #[dv A 3 c B 0 k 10 false (-1), .slice (some ⟨gz, 0, none⟩) 8 8] W fun e w' => ∃ A' c' B' k', e = .returned (.tuple #[dv A' 3 c' B' 0 k' 10 false (-1), .int .i64 35]) ∧ Below W.heap.size W w' := by
  refine (append_n A 3 c B 0 k 10 false (-1) [1, 2, 3] [] (List.replicate 8 0) (some ⟨gz, 0, none⟩) 8 8 W hA hB hz (by omega) (by omega) (by omega) (by omega) false (-1) 35 [] 0 (by decide) (by decide) (by decide) (by decide) rfl).mono ?_
  rintro e w' ⟨A', c', B', k', rfl, _, _, h⟩
  exact ⟨A', c', B', k', rfl, h⟩

set_option maxRecDepth 10000 in
set_option maxHeartbeats 16000000 in
theorem heads_any (w : World) : Calls Try.prog 8 #[] w fun e w' => e = .returned (.bool true) ∧ Below w.heap.size w w' := by
  go_enter Try.func8, Try.ntmps8
  go_wp2_with fail
  refine (new10 _).mono ?_
  rintro e w1 ⟨rfl, k1⟩
  have K1 := hide k1
  clear k1
  go_wp2_with fail
  refine (append_n none 0 0 none 0 0 10 false (-1) [] [] [1, 2] (some ⟨w1.heap.size + 1, 0, none⟩) 2 2 _ Reads.none_ Reads.none_ ?c1 (by omega) (by omega) (by omega) (by omega) false (-1) 0 [1, 2] 2 (by decide) (by decide) (by decide) (by decide) rfl).mono ?_
  case c1 =>
    have h := rd_two (w1.alloc (dC none 0 0 none 0 0 10 false (-1))) 1 2
    rw [World.size_alloc] at h
    exact h
  rintro e w2 ⟨A2, c2, B2, k2, rfl, hA, hB, kk⟩
  have bD := hide (((Blk.new w1 24 #[.slice none 0 0, .slice none 0 0, .int .i64 10, .bool false, .int .i64 (-1)]).alloc (.cells #[.int .u8 1, .int .u8 2] 5)).below kk (by simp; omega))
  have K2 := hide (below_more ((K1.out.alloc K1.out.size (dC none 0 0 none 0 0 10 false (-1))).alloc (by have := K1.out.size; simp; omega) (.cells #[.int .u8 1, .int .u8 2] 5)) (Nat.le_refl _) kk)
  have RA := hide (hA.more (C := w.heap.size) (by have := K1.out.size; simp; omega))
  have RB := hide (hB.more (C := w.heap.size) (by have := K1.out.size; simp; omega))
  have zz := K1.out.size
  have zl := bD.out.lt
  clear hA hB kk
  generalize w1.heap.size = g1 at *
  obtain ⟨⟨x0, x1, x2, x3, x4⟩, y0, y1, y2, y3, y4⟩ := bD.out.five
  go_wp2_with fail
  generalize hW : (((((w2.setCell ⟨g1, 0, none⟩ (.slice A2 0 c2)).setCell ⟨g1, 1, none⟩ (.slice B2 2 k2)).setCell ⟨g1, 2, none⟩ (.int .i64 10)).setCell ⟨g1, 3, none⟩ (.bool false)).setCell ⟨g1, 4, none⟩ (.int .i64 (-1))) = W2
  have bD' : Hid (Blk W2 g1 24 #[.slice A2 0 c2, .slice B2 2 k2, .int .i64 10, .bool false, .int .i64 (-1)]) := hide (by rw [← hW]; exact bD.out.set5 (.slice A2 0 c2) (.slice B2 2 k2) (.int .i64 10) (.bool false) (.int .i64 (-1)))
  have RA' := RA.out.set5 bD.out (.slice A2 0 c2) (.slice B2 2 k2) (.int .i64 10) (.bool false) (.int .i64 (-1))
  have RB' := RB.out.set5 bD.out (.slice A2 0 c2) (.slice B2 2 k2) (.int .i64 10) (.bool false) (.int .i64 (-1))
  have K2' := Below.set5_ K2.out zz (.slice A2 0 c2) (.slice B2 2 k2) (.int .i64 10) (.bool false) (.int .i64 (-1))
  simp only [set5] at RA' RB' K2'
  rw [hW] at RA' RB' K2'
  have zl' := bD'.out.lt
  have HA := hide RA'
  have HB := hide RB'
  have L2 := hide K2'
  have SZ2 : Hid (W2.heap.size = w2.heap.size) := hide (by rw [← hW]; simp [World.setCell])
  clear hW x0 x1 x2 x3 x4 y0 y1 y2 y3 y4 bD RA RB RA' RB' K2' zl K2
  have bD := bD'
  clear bD'
  obtain ⟨⟨x0, x1, x2, x3, x4⟩, y0, y1, y2, y3, y4⟩ := bD.out.five
  refine (sync_n A2 0 c2 B2 2 k2 10 false (-1) [] [1, 2] W2 HA.out.rd HB.out.rd (by omega) (by omega) (by omega) false (-1) 0 [1, 2] [] 2 0 (by decide) (by decide) (by decide) (by decide) (by decide) rfl rfl).mono ?_
  rintro e w3 ⟨A3, c3, B3, k3, rfl, hA, hB, kk⟩
  have bX := hide (bD.out.below kk bD.out.lt)
  have K3 := hide (below_more L2.out (Nat.le_refl _) kk)
  have RA := hide (hA.more (C := w.heap.size) (by have := L2.out.size; omega))
  have RB := hide (hB.more (C := w.heap.size) (by have := L2.out.size; omega))
  have zl := bX.out.lt
  clear hA hB kk bD x0 x1 x2 x3 x4 y0 y1 y2 y3 y4 zl' HA HB
  have bD := bX
  clear bX
  obtain ⟨⟨x0, x1, x2, x3, x4⟩, y0, y1, y2, y3, y4⟩ := bD.out.five
  go_wp2_with fail
  generalize hW : (((((w3.setCell ⟨g1, 0, none⟩ (.slice A3 2 c3)).setCell ⟨g1, 1, none⟩ (.slice B3 0 k3)).setCell ⟨g1, 2, none⟩ (.int .i64 10)).setCell ⟨g1, 3, none⟩ (.bool false)).setCell ⟨g1, 4, none⟩ (.int .i64 (-1))) = W3
  have bD' : Hid (Blk W3 g1 24 #[.slice A3 2 c3, .slice B3 0 k3, .int .i64 10, .bool false, .int .i64 (-1)]) := hide (by rw [← hW]; exact bD.out.set5 (.slice A3 2 c3) (.slice B3 0 k3) (.int .i64 10) (.bool false) (.int .i64 (-1)))
  have RA' := RA.out.set5 bD.out (.slice A3 2 c3) (.slice B3 0 k3) (.int .i64 10) (.bool false) (.int .i64 (-1))
  have RB' := RB.out.set5 bD.out (.slice A3 2 c3) (.slice B3 0 k3) (.int .i64 10) (.bool false) (.int .i64 (-1))
  have K3' := Below.set5_ K3.out zz (.slice A3 2 c3) (.slice B3 0 k3) (.int .i64 10) (.bool false) (.int .i64 (-1))
  simp only [set5] at RA' RB' K3'
  rw [hW] at RA' RB' K3'
  have zl' := bD'.out.lt
  have HA := hide RA'
  have HB := hide RB'
  have L3 := hide K3'
  have SZ3 : Hid (W3.heap.size = w3.heap.size) := hide (by rw [← hW]; simp [World.setCell])
  clear hW x0 x1 x2 x3 x4 y0 y1 y2 y3 y4 bD RA RB RA' RB' K3' zl K3
  have bD := bD'
  clear bD'
  obtain ⟨⟨x0, x1, x2, x3, x4⟩, y0, y1, y2, y3, y4⟩ := bD.out.five
  refine (append_n A3 2 c3 B3 0 k3 10 false (-1) [1, 2] [] [3, 4] (some ⟨w3.heap.size, 0, none⟩) 2 2 _ ((HA.out.alloc (.cells #[.int .u8 3, .int .u8 4] 5)).rd) ((HB.out.alloc (.cells #[.int .u8 3, .int .u8 4] 5)).rd) ?d1 (by omega) (by omega) (by omega) (by omega) false (-1) 0 [3, 4] 2 (by decide) (by decide) (by decide) (by decide) rfl).mono ?_
  case d1 =>
    have h := rd_two W3 3 4
    rw [SZ3.out] at h
    exact h
  rintro e w4 ⟨A4, c4, B4, k4, rfl, hA, hB, kk⟩
  have bX := hide ((bD.out.alloc (.cells #[.int .u8 3, .int .u8 4] 5)).below kk (bD.out.alloc (.cells #[.int .u8 3, .int .u8 4] 5)).lt)
  have K4 := hide (below_more (L3.out.alloc L3.out.size (.cells #[.int .u8 3, .int .u8 4] 5)) (Nat.le_refl _) kk)
  have RA := hide (hA.more (C := w.heap.size) (by have := L3.out.size; simp; omega))
  have RB := hide (hB.more (C := w.heap.size) (by have := L3.out.size; simp; omega))
  have zl := bX.out.lt
  clear hA hB kk bD x0 x1 x2 x3 x4 y0 y1 y2 y3 y4 zl' HA HB
  have bD := bX
  clear bX
  obtain ⟨⟨x0, x1, x2, x3, x4⟩, y0, y1, y2, y3, y4⟩ := bD.out.five
  go_wp2_with fail
  generalize hW : (((((w4.setCell ⟨g1, 0, none⟩ (.slice A4 2 c4)).setCell ⟨g1, 1, none⟩ (.slice B4 2 k4)).setCell ⟨g1, 2, none⟩ (.int .i64 10)).setCell ⟨g1, 3, none⟩ (.bool false)).setCell ⟨g1, 4, none⟩ (.int .i64 (-1))) = W4
  have bD' : Hid (Blk W4 g1 24 #[.slice A4 2 c4, .slice B4 2 k4, .int .i64 10, .bool false, .int .i64 (-1)]) := hide (by rw [← hW]; exact bD.out.set5 (.slice A4 2 c4) (.slice B4 2 k4) (.int .i64 10) (.bool false) (.int .i64 (-1)))
  have RA' := RA.out.set5 bD.out (.slice A4 2 c4) (.slice B4 2 k4) (.int .i64 10) (.bool false) (.int .i64 (-1))
  have RB' := RB.out.set5 bD.out (.slice A4 2 c4) (.slice B4 2 k4) (.int .i64 10) (.bool false) (.int .i64 (-1))
  have K4' := Below.set5_ K4.out zz (.slice A4 2 c4) (.slice B4 2 k4) (.int .i64 10) (.bool false) (.int .i64 (-1))
  simp only [set5] at RA' RB' K4'
  rw [hW] at RA' RB' K4'
  have zl' := bD'.out.lt
  have HA := hide RA'
  have HB := hide RB'
  have L4 := hide K4'
  have SZ4 : Hid (W4.heap.size = w4.heap.size) := hide (by rw [← hW]; simp [World.setCell])
  clear hW x0 x1 x2 x3 x4 y0 y1 y2 y3 y4 bD RA RB RA' RB' K4' zl K4
  have bD := bD'
  clear bD'
  obtain ⟨⟨x0, x1, x2, x3, x4⟩, y0, y1, y2, y3, y4⟩ := bD.out.five
  have cp4 := hide HB.out.caps
  refine (crash_n A4 2 c4 B4 2 k4 10 false (-1) 1 [1, 2] [3, 4] W4 HA.out.rd HB.out.rd (by omega) (by omega) cp4.out.1 true false (-1) [1, 2, 3] [] 3 0 (by decide) (by decide) (by decide) (by decide) (by decide) rfl rfl).mono ?_
  rintro e w5 ⟨A5, c5, B5, k5, rfl, hA, hB, kk⟩
  have K5 := hide (below_more L4.out (Nat.le_refl _) kk)
  have RA := hide (hA.more (C := w.heap.size) (by have := L4.out.size; omega))
  have RB := hide (hB.more (C := w.heap.size) (by have := L4.out.size; omega))
  clear hA hB kk bD x0 x1 x2 x3 x4 y0 y1 y2 y3 y4 zl' HA HB L4
  go_upto_region 6 with (fail)
  generalize hW : w5.alloc (.cells #[.slice A5 3 c5, .slice B5 0 k5, .int .i64 10, .bool false, .int .i64 (-1)] 24) = W5
  have bC : Blk W5 w5.heap.size 24 #[.slice A5 3 c5, .slice B5 0 k5, .int .i64 10, .bool false, .int .i64 (-1)] := by rw [← hW]; exact Blk.new w5 24 _
  have L5 : Hid (Below w.heap.size w W5) := hide (by rw [← hW]; exact K5.out.alloc K5.out.size _)
  have HA : Hid (Rc w.heap.size W5 A5 3 c5 [1, 2, 3]) := hide (by rw [← hW]; exact RA.out.alloc _)
  have HB : Hid (Rc w.heap.size W5 B5 0 k5 []) := hide (by rw [← hW]; exact RB.out.alloc _)
  have zg := K5.out.size
  have zl := bC.lt
  clear hW RA RB K5
  generalize w5.heap.size = g6 at *
  obtain ⟨⟨x0, x1, x2, x3, x4⟩, y0, y1, y2, y3, y4⟩ := bC.five
  obtain ⟨zs, hzs, m8⟩ := mk8
  have HZ := hide hzs
  have BC := hide bC
  clear hzs
  go_cut [8] (fun s8 wx => s8 = .int .i64 35 ∧ Blk wx g6 24 #[.slice A5 3 c5, .slice B5 0 k5, .int .i64 10, .bool false, .int .i64 (-1)] ∧ Rc w.heap.size wx A5 3 c5 [1, 2, 3] ∧ Rc w.heap.size wx B5 0 k5 [] ∧ Below w.heap.size w wx)
  case first =>
    have X1 := hide (app8 A5 c5 B5 k5 W5.heap.size ((W5.alloc (.cells zs 5)).drew) (HA.out.alloc (.cells zs 5)).rd.drew (HB.out.alloc (.cells zs 5)).rd.drew (rd_row W5 zs _ 8 HZ.out (by simp) (by omega)).drew)
    have P1 := hide (BC.out.alloc (.cells zs 5)).drew
    have U1 := hide (L5.out.alloc (by have := L5.out.size; simp; try omega) (.cells zs 5)).drew
    have V1 := hide ((HA.out.alloc (.cells zs 5)) : Rc w.heap.size (W5.alloc (.cells zs 5)) A5 3 c5 [1, 2, 3])
    have Q1 := hide ((HB.out.alloc (.cells zs 5)) : Rc w.heap.size (W5.alloc (.cells zs 5)) B5 0 k5 [])
    have X2 := hide (app8 A5 c5 B5 k5 W5.heap.size (((W5.alloc (.cells zs 5)).alloc (.cells #[.slice none 0 0, .slice none 0 0, .int .i64 0, .bool false, .int .i64 0] 24)).drew) ((HA.out.alloc (.cells zs 5)).alloc (.cells #[.slice none 0 0, .slice none 0 0, .int .i64 0, .bool false, .int .i64 0] 24)).rd.drew ((HB.out.alloc (.cells zs 5)).alloc (.cells #[.slice none 0 0, .slice none 0 0, .int .i64 0, .bool false, .int .i64 0] 24)).rd.drew (((rd_row W5 zs _ 8 HZ.out (by simp) (by omega)).alloc (Nat.le_refl _) (.cells #[.slice none 0 0, .slice none 0 0, .int .i64 0, .bool false, .int .i64 0] 24)).more (by simp)).drew)
    have P2 := hide ((BC.out.alloc (.cells zs 5)).alloc (.cells #[.slice none 0 0, .slice none 0 0, .int .i64 0, .bool false, .int .i64 0] 24)).drew
    have U2 := hide ((L5.out.alloc (by have := L5.out.size; simp; try omega) (.cells zs 5)).alloc (by have := L5.out.size; simp; try omega) (.cells #[.slice none 0 0, .slice none 0 0, .int .i64 0, .bool false, .int .i64 0] 24)).drew
    have V2 := hide (((HA.out.alloc (.cells zs 5)).alloc (.cells #[.slice none 0 0, .slice none 0 0, .int .i64 0, .bool false, .int .i64 0] 24)) : Rc w.heap.size ((W5.alloc (.cells zs 5)).alloc (.cells #[.slice none 0 0, .slice none 0 0, .int .i64 0, .bool false, .int .i64 0] 24)) A5 3 c5 [1, 2, 3])
    have Q2 := hide (((HB.out.alloc (.cells zs 5)).alloc (.cells #[.slice none 0 0, .slice none 0 0, .int .i64 0, .bool false, .int .i64 0] 24)) : Rc w.heap.size ((W5.alloc (.cells zs 5)).alloc (.cells #[.slice none 0 0, .slice none 0 0, .int .i64 0, .bool false, .int .i64 0] 24)) B5 0 k5 [])
    have X3 := hide (app8 A5 c5 B5 k5 (W5.heap.size + 1) (((W5.alloc (.cells #[.slice none 0 0, .slice none 0 0, .int .i64 0, .bool false, .int .i64 0] 24)).alloc (.cells zs 5)).drew) ((HA.out.alloc (.cells #[.slice none 0 0, .slice none 0 0, .int .i64 0, .bool false, .int .i64 0] 24)).alloc (.cells zs 5)).rd.drew ((HB.out.alloc (.cells #[.slice none 0 0, .slice none 0 0, .int .i64 0, .bool false, .int .i64 0] 24)).alloc (.cells zs 5)).rd.drew (rd_row1 W5 (.cells #[.slice none 0 0, .slice none 0 0, .int .i64 0, .bool false, .int .i64 0] 24) zs _ 8 HZ.out (by simp) (by omega)).drew)
    have P3 := hide ((BC.out.alloc (.cells #[.slice none 0 0, .slice none 0 0, .int .i64 0, .bool false, .int .i64 0] 24)).alloc (.cells zs 5)).drew
    have U3 := hide ((L5.out.alloc (by have := L5.out.size; simp; try omega) (.cells #[.slice none 0 0, .slice none 0 0, .int .i64 0, .bool false, .int .i64 0] 24)).alloc (by have := L5.out.size; simp; try omega) (.cells zs 5)).drew
    have V3 := hide (((HA.out.alloc (.cells #[.slice none 0 0, .slice none 0 0, .int .i64 0, .bool false, .int .i64 0] 24)).alloc (.cells zs 5)) : Rc w.heap.size ((W5.alloc (.cells #[.slice none 0 0, .slice none 0 0, .int .i64 0, .bool false, .int .i64 0] 24)).alloc (.cells zs 5)) A5 3 c5 [1, 2, 3])
    have Q3 := hide (((HB.out.alloc (.cells #[.slice none 0 0, .slice none 0 0, .int .i64 0, .bool false, .int .i64 0] 24)).alloc (.cells zs 5)) : Rc w.heap.size ((W5.alloc (.cells #[.slice none 0 0, .slice none 0 0, .int .i64 0, .bool false, .int .i64 0] 24)).alloc (.cells zs 5)) B5 0 k5 [])
    go_region_held3 (fun W => W.cell? ⟨g6, 0, none⟩ = some (.slice A5 3 c5) ∧ W.cell? ⟨g6, 1, none⟩ = some (.slice B5 0 k5) ∧ W.cell? ⟨g6, 2, none⟩ = some (.int .i64 10) ∧ W.cell? ⟨g6, 3, none⟩ = some (.bool false) ∧ W.cell? ⟨g6, 4, none⟩ = some (.int .i64 (-1)))
      (first | with_reducible exact blk5b BC.out | with_reducible exact blk5b BC.out.drew | with_reducible exact blk5b (BC.out.alloc _).drew | with_reducible exact blk5b ((BC.out.alloc _).alloc _).drew | with_reducible exact blk5b P8.out | with_reducible exact blk5b (P8.out.alloc _) | with_reducible exact blk5b (((((P8.out.far (p := ⟨W5.heap.size, 0, none⟩) hq8 _).far (p := ⟨W5.heap.size, 1, none⟩) hq8 _).far (p := ⟨W5.heap.size, 2, none⟩) hq8 _).far (p := ⟨W5.heap.size, 3, none⟩) hq8 _).far (p := ⟨W5.heap.size, 4, none⟩) hq8 _) | with_reducible exact blk5b (((((P8.out.far (p := ⟨(W5.heap.size + 1), 0, none⟩) hq8 _).far (p := ⟨(W5.heap.size + 1), 1, none⟩) hq8 _).far (p := ⟨(W5.heap.size + 1), 2, none⟩) hq8 _).far (p := ⟨(W5.heap.size + 1), 3, none⟩) hq8 _).far (p := ⟨(W5.heap.size + 1), 4, none⟩) hq8 _))
      (first
        | (go_at_call 9; with_reducible refine X1.out.mono ?_
           rintro e w8 ⟨A8, c8, B8', k8', rfl, k8⟩
           have P8 := hide (P1.out.below k8 P1.out.lt)
           have z8 := k8.size
           try simp at z8
           have hq8 : g6 ≠ w8.heap.size := (by omega)
           have B8 : True := trivial
           have U8 := hide (below_more U1.out (Nat.le_refl _) k8)
           have V8 : Hid (Rc w.heap.size w8 A5 3 c5 [1, 2, 3]) := hide (V1.out.drew.below k8)
           have Q8 : Hid (Rc w.heap.size w8 B5 0 k5 []) := hide (Q1.out.drew.below k8)
           obtain ⟨⟨u0, u1, u2, u3, u4⟩, v0, v1, v2, v3, v4⟩ := P8.out.five
           clear k8)
        | (go_at_call 9; with_reducible refine X2.out.mono ?_
           rintro e w8 ⟨A8, c8, B8', k8', rfl, k8⟩
           have P8 := hide (P2.out.below k8 P2.out.lt)
           have z8 := k8.size
           try simp at z8
           have hq8 : g6 ≠ W5.heap.size + 1 := (by omega)
           have B8 := hide (by have hh := (Blk.new (W5.alloc (.cells zs 5)) 24 #[.slice none 0 0, .slice none 0 0, .int .i64 0, .bool false, .int .i64 0]).drew.below k8 (by simp); rwa [World.size_alloc] at hh)
           obtain ⟨⟨t0, t1, t2, t3, t4⟩, r0, r1, r2, r3, r4⟩ := B8.out.five
           have U8 := hide (below_more U2.out (Nat.le_refl _) k8)
           have V8 : Hid (Rc w.heap.size w8 A5 3 c5 [1, 2, 3]) := hide (V2.out.drew.below k8)
           have Q8 : Hid (Rc w.heap.size w8 B5 0 k5 []) := hide (Q2.out.drew.below k8)
           obtain ⟨⟨u0, u1, u2, u3, u4⟩, v0, v1, v2, v3, v4⟩ := P8.out.five
           clear k8)
        | (go_at_call 9; with_reducible refine X3.out.mono ?_
           rintro e w8 ⟨A8, c8, B8', k8', rfl, k8⟩
           have P8 := hide (P3.out.below k8 P3.out.lt)
           have z8 := k8.size
           try simp at z8
           have hq8 : g6 ≠ W5.heap.size := (by omega)
           have B8 := hide (((Blk.new W5 24 #[.slice none 0 0, .slice none 0 0, .int .i64 0, .bool false, .int .i64 0]).alloc (.cells zs 5)).drew.below k8 (by simp; try omega))
           obtain ⟨⟨t0, t1, t2, t3, t4⟩, r0, r1, r2, r3, r4⟩ := B8.out.five
           have U8 := hide (below_more U3.out (Nat.le_refl _) k8)
           have V8 : Hid (Rc w.heap.size w8 A5 3 c5 [1, 2, 3]) := hide (V3.out.drew.below k8)
           have Q8 : Hid (Rc w.heap.size w8 B5 0 k5 []) := hide (Q3.out.drew.below k8)
           obtain ⟨⟨u0, u1, u2, u3, u4⟩, v0, v1, v2, v3, v4⟩ := P8.out.five
           clear k8))
    all_goals
      go_wp2_with fail
      go_meet
    · exact ⟨rfl, P8.out.alloc _, V8.out.alloc _, Q8.out.alloc _, U8.out.alloc U8.out.size _⟩
    · refine ⟨rfl, (((((P8.out.far (p := ⟨W5.heap.size + 1, 0, none⟩) hq8 _).far (p := ⟨W5.heap.size + 1, 1, none⟩) hq8 _).far (p := ⟨W5.heap.size + 1, 2, none⟩) hq8 _).far (p := ⟨W5.heap.size + 1, 3, none⟩) hq8 _).far (p := ⟨W5.heap.size + 1, 4, none⟩) hq8 _), ?_, ?_, ?_⟩
      · exact V8.out.set5 B8.out _ _ _ _ _
      · exact Q8.out.set5 B8.out _ _ _ _ _
      · exact Below.set5_ U8.out (by omega) _ _ _ _ _
    · refine ⟨rfl, (((((P8.out.far (p := ⟨W5.heap.size, 0, none⟩) hq8 _).far (p := ⟨W5.heap.size, 1, none⟩) hq8 _).far (p := ⟨W5.heap.size, 2, none⟩) hq8 _).far (p := ⟨W5.heap.size, 3, none⟩) hq8 _).far (p := ⟨W5.heap.size, 4, none⟩) hq8 _), ?_, ?_, ?_⟩
      · exact V8.out.set5 B8.out _ _ _ _ _
      · exact Q8.out.set5 B8.out _ _ _ _ _
      · exact Below.set5_ U8.out (by omega) _ _ _ _ _
  case rest =>
    obtain ⟨rfl, bC, RA, RB, K⟩ := hcut
    have zc := bC.lt
    have BC := hide bC
    have HA := hide RA
    have HB := hide RB
    have L := hide K
    have cpc := hide RA.caps
    clear RA RB K m8 x0 x1 x2 x3 x4 y0 y1 y2 y3 y4
    obtain ⟨⟨x0, x1, x2, x3, x4⟩, y0, y1, y2, y3, y4⟩ := BC.out.five
    clear bC zl
    go_wp2_with fail
    refine (arm_n A5 3 c5 B5 0 k5 10 false (-1) 0 [1, 2, 3] [] _ HA.out.rd HB.out.rd (by omega) (by omega) 0 (by decide)).mono ?_
    rintro e w9 ⟨A9, c9, B9, k9, rfl, hA9, hB9, kk⟩
    have BC9 := hide (BC.out.below kk BC.out.lt)
    have HA9 := hide (HA.out.below kk)
    have HB9 := hide (HB.out.below kk)
    have L9 := hide (below_more L.out (Nat.le_refl _) kk)
    have RA9 := hide hA9
    have RB9 := hide hB9
    clear kk hA9 hB9 x0 x1 x2 x3 x4 y0 y1 y2 y3 y4 zc
    have zc := BC9.out.lt
    go_wp2_with fail
    refine (sync_n A9 3 c9 B9 0 k9 10 false 0 [1, 2, 3] [] _ RA9.out.rd RB9.out.rd (by omega) (by omega) (by omega) true 0 42 [1, 2, 3] [] 3 0 (by decide) (by decide) (by decide) (by decide) (by decide) rfl rfl).mono ?_
    rintro e wA ⟨AA, cA, BA, kA, rfl, _, _, kk⟩
    have BCA := hide (BC9.out.below kk BC9.out.lt)
    have HAA := hide (HA9.out.below kk)
    have HBA := hide (HB9.out.below kk)
    have LA := hide (below_more L9.out (Nat.le_refl _) kk)
    clear kk RA9 RB9 zc
    have zc := BCA.out.lt
    obtain ⟨⟨x0, x1, x2, x3, x4⟩, y0, y1, y2, y3, y4⟩ := BCA.out.five
    go_wp2_with fail
    refine (cut_n A5 3 c5 B5 0 k5 10 false (-1) 2 [1, 2, 3] [] _ ((HAA.out.alloc (.cells #[.slice AA 3 cA, .slice BA 0 kA, .int .i64 10, .bool true, .int .i64 0] 24)).rd) ((HBA.out.alloc (.cells #[.slice AA 3 cA, .slice BA 0 kA, .int .i64 10, .bool true, .int .i64 0] 24)).rd) (by omega) (by omega) cpc.out.1 0 [1, 2] 2 (by decide) (by decide) rfl).mono ?_
    rintro e wB ⟨AB, cB, BB, kB, rfl, _, _, kk⟩
    have BCB := hide ((BCA.out.alloc (.cells #[.slice AA 3 cA, .slice BA 0 kA, .int .i64 10, .bool true, .int .i64 0] 24)).below kk (BCA.out.alloc (.cells #[.slice AA 3 cA, .slice BA 0 kA, .int .i64 10, .bool true, .int .i64 0] 24)).lt)
    have BXB := hide ((Blk.new wA 24 #[.slice AA 3 cA, .slice BA 0 kA, .int .i64 10, .bool true, .int .i64 0]).below kk (by simp))
    have HAB := hide ((HAA.out.alloc (.cells #[.slice AA 3 cA, .slice BA 0 kA, .int .i64 10, .bool true, .int .i64 0] 24)).below kk)
    have LB := hide (below_more (LA.out.alloc LA.out.size (.cells #[.slice AA 3 cA, .slice BA 0 kA, .int .i64 10, .bool true, .int .i64 0] 24)) (Nat.le_refl _) kk)
    clear kk x0 x1 x2 x3 x4 y0 y1 y2 y3 y4 zc
    have zc := BCB.out.lt
    have zx := BXB.out.lt
    obtain ⟨⟨x0, x1, x2, x3, x4⟩, y0, y1, y2, y3, y4⟩ := BCB.out.five
    obtain ⟨⟨u0, u1, u2, u3, u4⟩, v0, v1, v2, v3, v4⟩ := BXB.out.five
    have r1 := run_string_of (P := Try.prog) (wB.alloc (.cells #[.slice AB 2 cB, .slice BB 0 kB, .int .i64 10, .bool false, .int .i64 (-1)] 24)) _ 22 9 5 A5 3 c5 [1, 2, 3] Try.underlying22 Try.underlying5 Try.underlying9 (HAB.out.alloc (.cells #[.slice AB 2 cB, .slice BB 0 kB, .int .i64 10, .bool false, .int .i64 (-1)] 24)).rd
    go_wp2_with fail
    refine (check_any A5 3 c5 B5 0 k5 10 false (-1) _ (by omega) (by omega)).mono ?_
    rintro e wC ⟨rfl, rfl⟩
    rw [show okD 3 0 10 (-1) = true by decide]
    go_wp2_with fail
    refine (check_any none 0 0 none 0 0 (-1) false 0 _ (by omega) (by omega)).mono ?_
    rintro e wD ⟨rfl, rfl⟩
    rw [show okD 0 0 (-1) 0 = false by decide]
    go_wp2
    go_ret
    refine ⟨rfl, ?_⟩
    exact ((LB.out.alloc LB.out.size _).alloc (by have := LB.out.size; simp; omega) _).alloc (by have := LB.out.size; simp; omega) _
#print axioms heads_any
end Go.Proofs.Ythoaocjeladbkaa
