/- heads: what must come at any rate. -/
import Derived.Test.YtpbhkceinnganaaPipeW
import Derived.Test.YtpbhkceinnganaaPipeO
import Derived.Test.YtpbhkceinnganaaPipeD
import Derived.Test.YtpbhkceinnganaaPipeR
import Derived.Test.YtpbhkceinnganaaLawR
import Derived.Deep.DeepCutAuto
namespace Go.Proofs.Ytpbhkceinnganaa
open Go.RowKit
set_option linter.unusedVariables false

theorem open_n (A : Option Addr) (n c : Nat) (r u : Int) (wr : Bool) (k : Int) (w : World) (d : List UInt8) (hr : Rd w A n d) (hn : n ≤ 1000) (R U E : Int) (hR : opR n r u wr k = R) (hU : opU n r u wr k = U) (hE : opE n r u wr k = E) :
    Calls Try.prog 11 #[pv A n c r u, .bool wr, .int .i64 k] w fun e w' => ∃ A' c' d', e = .returned (.tuple #[pv A' n c' R U, .int .i64 E]) ∧ Rc w.heap.size w' A' n c' d' ∧ Below w.heap.size w w' := by
  have hl := hr.len
  subst hl
  refine (open_any A c r u d wr k w hr hn).mono ?_
  rintro e w' ⟨A', c', rfl, h, hb⟩
  exact ⟨A', c', d, by rw [hR, hU, hE], h, hb⟩
theorem write_n (A : Option Addr) (n c : Nat) (r u : Int) (d : List UInt8) (B : Option Addr) (m k : Nat) (b : List UInt8) (w : World) (hr : Rd w A n d) (hn : n ≤ 1000) (hb : Rd w B m b) (hm : m ≤ 1000000) (hk : m ≤ k) (N : Nat) (E : Int) (hN : wrN n r u m = N) (hE : wrE n r u m = E) (hNm : N ≤ m) :
    Calls Try.prog 7 #[pv A n c r u, .slice B m k] w fun e w' => ∃ A' c' d', e = .returned (.tuple #[pv A' (n + N) c' r u, .int .i64 N, .int .i64 E]) ∧ Rc w.heap.size w' A' (n + N) c' d' ∧ Below w.heap.size w w' := by
  have hl := hr.len
  have hl2 := hb.len
  refine (write_any A n c r u d B m k b w hr hn hb hm hk).mono ?_
  rintro e w' ⟨A', n', c', rfl, h, hb⟩
  rw [hl, hl2, hN] at h
  have h3 := h.rd.len
  obtain rfl : n' = n + N := by rw [List.length_append, List.length_take, hl, hl2] at h3; omega
  exact ⟨A', c', _, by rw [hl, hl2, hN, hE], h, hb⟩
theorem rdQ_le (n : Nat) (r u k : Int) : rdQ n r u k ≤ n := by unfold rdQ; split <;> omega
theorem read_n (A : Option Addr) (n c : Nat) (r u : Int) (d : List UInt8) (k : Int) (w : World) (hr : Rd w A n d) (hn : n ≤ 1000) (hc : n ≤ c) (hcc : c ≤ maxLen) (hk0 : -9223372036854775808 ≤ k) (hk1 : k ≤ 9223372036854775807) (Q M : Nat) (E : Int) (hQ : rdQ n r u k = Q) (hE : rdE n r u k = E) (hM : n - Q = M) :
    Calls Try.prog 9 #[pv A n c r u, .int .i64 k] w fun e w' => ∃ A' c' d' B c2 b', e = .returned (.tuple #[pv A' M c' r u, .slice B Q c2, .int .i64 E]) ∧ Rc w.heap.size w' A' M c' d' ∧ Rd w' B Q b' ∧ Below w.heap.size w w' := by
  have hl := hr.len
  subst hl
  have hle := rdQ_le d.length r u k
  refine (read_any A c r u d k w hr hn hc hcc hk0 hk1).mono ?_
  rintro e w' ⟨A', n', c', B, m, c2, rfl, h, h2, hb⟩
  have h3 := h.rd.len
  have h4 := h2.len
  obtain rfl : n' = M := by rw [List.length_drop, hQ] at h3; omega
  obtain rfl : m = Q := by rw [List.length_take, hQ] at h4; omega
  exact ⟨A', c', _, B, c2, _, by rw [hE], h, h2, hb⟩

theorem mk70 : ∃ zs : Array Value, zs.toList = bv (List.replicate 70 0) ∧ ∀ W, (Instr.makeSlice 22 (.int .i64 70) (.int .i64 70)).run Try.prog W = .ok (.slice (some ⟨W.heap.size, 0, none⟩) 70 70) (W.alloc (.cells zs 5)) := by
  obtain ⟨i, hi, hz, hs, hb⟩ := info_parts infoU8
  refine ⟨madeCells (Value.int .u8 0).cells (70 * 1), ?_, fun W => ?_⟩
  · unfold madeCells
    simp [Value.cells, Nat.mod_one, bv, List.map_const']
  · have := run_make_rowN (P := Try.prog) 22 5 i _ Try.underlying22 hi hz .i64 .i64 70 70 (by omega) (by omega) (by omega) W
    rw [hs] at this
    exact this
theorem rd_row (W : World) (zs : Array Value) (bs : List UInt8) (n : Nat) (h : zs.toList = bv bs) (hn : bs.length = n) (hm : n ≤ 1000) : Rd (W.alloc (.cells zs 5)) (some ⟨W.heap.size, 0, none⟩) n bs := by
  have hz : zs.size = n := by rw [← Array.length_toList, h, bv_length, hn]
  have := Reads.of_own (Blk.own (base := 0) (cap := n) (Blk.new W 5 zs) (by omega) (by unfold maxLen; omega) hz)
  rwa [h] at this
theorem rd_row1 (W : World) (o : Obj) (zs : Array Value) (bs : List UInt8) (n : Nat) (h : zs.toList = bv bs) (hn : bs.length = n) (hm : n ≤ 1000) : Rd ((W.alloc o).alloc (.cells zs 5)) (some ⟨W.heap.size + 1, 0, none⟩) n bs := by
  have := rd_row (W.alloc o) zs bs n h hn hm
  rwa [World.size_alloc] at this
theorem write70 (A2 : Option Addr) (c2 gp B : Nat) (w W : World) (gz : Nat) (hR : Rd W (some ⟨gz, 0, none⟩) 70 (List.replicate 70 0)) (hP : Blk W gp 24 #[Value.slice A2 0 c2, .int .i64 1, .int .i64 1]) (hK : Below B w W) (hB : B ≤ w.heap.size) :
    Calls Try.prog 7 #[pv A2 0 c2 1 1, .slice (some ⟨gz, 0, none⟩) 70 70] W fun e w' => ∃ A4 c4 d4, e = .returned (.tuple #[pv A4 64 c4 1 1, .int .i64 64, .int .i64 0]) ∧ Hid (Rc W.heap.size w' A4 64 c4 d4) ∧ Blk w' gp 24 #[Value.slice A2 0 c2, .int .i64 1, .int .i64 1] ∧ Hid (Below B w w') ∧ Hid (Below W.heap.size W w') ∧ gp < w'.heap.size := by
  refine (write_n A2 0 c2 1 1 [] (some ⟨gz, 0, none⟩) 70 70 (List.replicate 70 0) W Reads.none_ (by omega) hR (by omega) (by omega) 64 0 (by decide) (by decide) (by omega)).mono ?_
  rintro e w4 ⟨A4, c4, d4, rfl, h4, k4⟩
  exact ⟨A4, c4, d4, rfl, hide h4, hP.below k4 hP.lt, hide (below_more hK hB k4), hide k4, Nat.lt_of_lt_of_le hP.lt k4.size⟩

set_option maxRecDepth 10000 in
set_option maxHeartbeats 16000000 in
theorem heads_any (w : World) : Calls Try.prog 6 #[] w fun e w' => e = .returned (.bool true) ∧ Below w.heap.size w w' := by
  go_enter Try.func6, Try.ntmps6
  go_wp2_with fail
  refine (open_n none 0 0 0 0 false 1 _ [] Reads.none_ (by omega) 1 0 0 (by decide) (by decide) (by decide)).mono ?_
  rintro e w1 ⟨A1, c1, d1, rfl, h1, k1⟩
  have H1 := hide h1
  have K1 := hide k1
  clear h1 k1
  go_wp2_with fail
  refine (open_n A1 0 c1 1 0 true 1 _ d1 ((H1.out.rd.alloc (Nat.le_refl _) _).more (by simp)) (by omega) 1 1 0 (by decide) (by decide) (by decide)).mono ?_
  rintro e w2 ⟨A2, c2, d2, rfl, h2, k2⟩
  have H2 := hide h2
  have bP := (Blk.new w1 24 #[Value.slice A1 0 c1, .int .i64 1, .int .i64 0]).below k2 (by simp)
  have K2 := hide (K1.out.alloc (by have := K1.out.size; omega) (.cells #[Value.slice A1 0 c1, .int .i64 1, .int .i64 0] 24) |>.trans (k2.mono (by have := K1.out.size; simp; omega)))
  have z2 := k2.size
  simp at z2
  clear h2 k2
  obtain ⟨x0, x1, x2, y0, y1, y2⟩ := bP.three
  go_upto_region 3 with (fail)
  generalize hW3 : (((w2.setCell { block := w1.heap.size, off := 0 } (Value.slice A2 0 c2)).setCell { block := w1.heap.size, off := 1 } (Value.int IntKind.i64 1)).setCell { block := w1.heap.size, off := 2 } (Value.int IntKind.i64 1)) = w3
  have bP3 : Blk w3 w1.heap.size 24 #[Value.slice A2 0 c2, .int .i64 1, .int .i64 1] := by rw [← hW3]; exact (((bP.set_ 0 _).set_ 1 _).set_ 2 _)
  have K3 : Hid (Below w.heap.size w w3) := hide (by rw [← hW3]; exact ((K2.out.setCell (by have := K1.out.size; simp; omega) _).setCell (by have := K1.out.size; simp; omega) _).setCell (by have := K1.out.size; simp; omega) _)
  have z3 : w1.heap.size + 1 ≤ w3.heap.size := by rw [← hW3]; simpa [World.setCell] using z2
  clear hW3 x0 x1 x2 y0 y1 y2 bP z2 K2
  obtain ⟨x0, x1, x2, y0, y1, y2⟩ := bP3.three
  obtain ⟨zs, hzs, m70⟩ := mk70
  have HZ := hide hzs
  clear hzs
  go_cut [4, 5, 6] (fun s4 s5 s6 wx => s5 = .int .i64 64 ∧ s6 = .int .i64 0 ∧ ∃ (gq : Nat) (A4 : Option Addr) (c4 : Nat) (d4 : List UInt8), s4 = .pointer (some ⟨gq, 0, none⟩) ∧ Blk wx w1.heap.size 24 #[Value.slice A2 0 c2, .int .i64 1, .int .i64 1] ∧ Blk wx gq 24 #[Value.slice A4 64 c4, .int .i64 1, .int .i64 1] ∧ Rc w.heap.size wx A4 64 c4 d4 ∧ w1.heap.size ≠ gq ∧ w.heap.size ≤ gq ∧ Below w.heap.size w wx)
  case first =>
    have zK := K1.out.size
    have nQ : w1.heap.size < (w3.alloc (.cells #[Value.slice none 0 0, .int .i64 0, .int .i64 0] 24)).heap.size := by simp; omega
    have X1 := hide (write70 A2 c2 w1.heap.size w.heap.size w ((w3.alloc (.cells zs 5)).drew) w3.heap.size (rd_row w3 zs _ 70 HZ.out (by simp) (by omega)) ((bP3.alloc (.cells zs 5)).drew) (K3.out.alloc (by omega) (.cells zs 5)).drew (Nat.le_refl _))
    have X2 := hide (write70 A2 c2 w1.heap.size w.heap.size w (((w3.alloc (.cells zs 5)).alloc (.cells #[Value.slice none 0 0, .int .i64 0, .int .i64 0] 24)).drew) w3.heap.size (((rd_row w3 zs _ 70 HZ.out (by simp) (by omega)).alloc (Nat.le_refl _) _).more (by simp)) (((bP3.alloc (.cells zs 5)).alloc _).drew) ((K3.out.alloc (by omega) (.cells zs 5)).alloc (by simp; omega) _).drew (Nat.le_refl _))
    have X3 := hide (write70 A2 c2 w1.heap.size w.heap.size w (((w3.alloc (.cells #[Value.slice none 0 0, .int .i64 0, .int .i64 0] 24)).alloc (.cells zs 5)).drew) (w3.heap.size + 1) (rd_row1 w3 _ zs _ 70 HZ.out (by simp) (by omega)) (((bP3.alloc _).alloc (.cells zs 5)).drew) ((K3.out.alloc (by omega) _).alloc (by simp; omega) (.cells zs 5)).drew (Nat.le_refl _))
    go_region_held3 (fun W => W.cell? ⟨w1.heap.size, 0, none⟩ = some (.slice A2 0 c2) ∧ W.cell? ⟨w1.heap.size, 1, none⟩ = some (.int .i64 1) ∧ W.cell? ⟨w1.heap.size, 2, none⟩ = some (.int .i64 1))
      (first | exact ⟨x0, x1, x2⟩ | exact ⟨u0, u1, u2⟩ | with_reducible exact blk3 (bP3.drew.alloc _) | with_reducible exact blk3 (bP3.alloc _).drew | with_reducible exact blk3 ((bP3.alloc _).alloc _).drew | with_reducible exact blk3 (bP4.alloc _) | with_reducible exact blk3 ((((bP4.alloc _).far (p := ⟨w4.heap.size, 0, none⟩) hq4 _).far (p := ⟨w4.heap.size, 1, none⟩) hq4 _).far (p := ⟨w4.heap.size, 2, none⟩) hq4 _) | with_reducible exact blk3 (((bP4.far (p := ⟨w3.heap.size + 1, 0, none⟩) hq4 _).far (p := ⟨w3.heap.size + 1, 1, none⟩) hq4 _).far (p := ⟨w3.heap.size + 1, 2, none⟩) hq4 _) | with_reducible exact blk3 (((bP4.far (p := ⟨w3.heap.size, 0, none⟩) hq4 _).far (p := ⟨w3.heap.size, 1, none⟩) hq4 _).far (p := ⟨w3.heap.size, 2, none⟩) hq4 _))
      (first
        | (go_at_call 7; with_reducible refine X1.out.mono ?_
           rintro e w4 ⟨A4, c4, d4, rfl, H4, bP4, K4, L4, hl4⟩
           have hq4 : w1.heap.size ≠ w4.heap.size := (by omega)
           have bQ4 : True := trivial
           obtain ⟨u0, u1, u2, v0, v1, v2⟩ := bP4.three)
        | (go_at_call 7; with_reducible refine X2.out.mono ?_
           rintro e w4 ⟨A4, c4, d4, rfl, H4, bP4, K4, L4, hl4⟩
           have hq4 : w1.heap.size ≠ w3.heap.size + 1 := (by omega)
           have bQ4 : Blk w4 (w3.heap.size + 1) 24 #[Value.slice none 0 0, .int .i64 0, .int .i64 0] := (by have hh := (Blk.new (w3.alloc (.cells zs 5)) 24 #[Value.slice none 0 0, .int .i64 0, .int .i64 0]).drew.below L4.out (by simp); simpa using hh)
           obtain ⟨u0, u1, u2, v0, v1, v2⟩ := bP4.three
           obtain ⟨t0, t1, t2, r0, r1, r2⟩ := bQ4.three)
        | (go_at_call 7; with_reducible refine X3.out.mono ?_
           rintro e w4 ⟨A4, c4, d4, rfl, H4, bP4, K4, L4, hl4⟩
           have hq4 : w1.heap.size ≠ w3.heap.size := (by omega)
           have bQ4 : Blk w4 w3.heap.size 24 #[Value.slice none 0 0, .int .i64 0, .int .i64 0] := (by exact ((Blk.new w3 24 #[Value.slice none 0 0, .int .i64 0, .int .i64 0]).alloc (.cells zs 5)).drew.below L4.out (by simp; try omega))
           obtain ⟨u0, u1, u2, v0, v1, v2⟩ := bP4.three
           obtain ⟨t0, t1, t2, r0, r1, r2⟩ := bQ4.three))
    all_goals
      go_wp2_with fail
      go_meet
    · exact ⟨rfl, rfl, w4.heap.size, A4, c4, d4, rfl, bP4.alloc _, Blk.new w4 24 _, own_more (H4.out.alloc _) (by simp; omega), hq4, K4.out.size, K4.out.alloc K4.out.size _⟩
    · refine ⟨rfl, rfl, w3.heap.size + 1, A4, c4, d4, rfl, ((bP4.far (p := ⟨w3.heap.size + 1, 0, none⟩) hq4 _).far (p := ⟨w3.heap.size + 1, 1, none⟩) hq4 _).far (p := ⟨w3.heap.size + 1, 2, none⟩) hq4 _, ((bQ4.set_ 0 _).set_ 1 _).set_ 2 _, own_more (((H4.out.far (by simp) _).far (by simp) _).far (by simp) _) (by simp; omega), hq4, by omega, ?_⟩
      exact ((K4.out.setCell (by simp; omega) _).setCell (by simp; omega) _).setCell (by simp; omega) _
    · refine ⟨rfl, rfl, w3.heap.size, A4, c4, d4, rfl, ((bP4.far (p := ⟨w3.heap.size, 0, none⟩) hq4 _).far (p := ⟨w3.heap.size, 1, none⟩) hq4 _).far (p := ⟨w3.heap.size, 2, none⟩) hq4 _, ((bQ4.set_ 0 _).set_ 1 _).set_ 2 _, own_more (((H4.out.far (by simp; omega) _).far (by simp; omega) _).far (by simp; omega) _) (by simp; omega), hq4, by omega, ?_⟩
      exact ((K4.out.setCell (by simp; omega) _).setCell (by simp; omega) _).setCell (by simp; omega) _
  case rest =>
    obtain ⟨rfl, rfl, gq, A4, c4, d4, rfl, bP, bQ, R4, hne, hgq, K⟩ := hcut
    have zp := bP.lt
    have zq := bQ.lt
    have RR := hide R4
    have KK := hide K
    clear R4 K x0 x1 x2 y0 y1 y2 m70
    generalize w1.heap.size = gp at *
    obtain ⟨x0, x1, x2, y0, y1, y2⟩ := bP.three
    obtain ⟨u0, u1, u2, v0, v1, v2⟩ := bQ.three
    go_wp2_with fail
    have hc2 := H2.out.caps.2
    have hcap4 := RR.out.caps
    refine (write_n A4 64 c4 1 1 d4 (some ⟨wc.heap.size, 0, none⟩) 1 1 [1] _ ((RR.out.rd.alloc (Nat.le_refl _) _).more (by simp)) (by omega) (rd_lit wc) (by omega) (by omega) 0 29 (by decide) (by decide) (by omega)).mono ?_
    rintro e w5 ⟨A5, c5, d5, rfl, _, k5⟩
    clear x0 x1 x2 y0 y1 y2 u0 u1 u2 v0 v1 v2
    have bP5 := (bP.alloc (.cells #[.int .u8 1] 5)).below k5 (by simp; try omega)
    have bQ5 := (bQ.alloc (.cells #[.int .u8 1] 5)).below k5 (by simp; try omega)
    have K5 := hide (below_more (KK.out.alloc KK.out.size (.cells #[.int .u8 1] 5)) (Nat.le_refl _) k5)
    have z5 := k5.size
    try simp at z5
    have R5 := hide ((RR.out.alloc (.cells #[.int .u8 1] 5)).below k5)
    clear k5
    have zp5 := bP5.lt
    have zq5 := bQ5.lt
    obtain ⟨x0, x1, x2, y0, y1, y2⟩ := bP5.three
    obtain ⟨u0, u1, u2, v0, v1, v2⟩ := bQ5.three
    go_wp2_with fail
    refine (read_n A4 64 c4 1 1 d4 60 _ ((R5.out.rd.alloc (Nat.le_refl _) _).more (by simp)) (by omega) hcap4.1 hcap4.2 (by omega) (by omega) 60 4 0 (by decide) (by decide) (by decide)).mono ?_
    rintro e w6 ⟨A6, c6, d6, B6, e6, f6, rfl, h6, _, k6⟩
    clear x0 x1 x2 y0 y1 y2 u0 u1 u2 v0 v1 v2
    have bP6 := (bP5.alloc (.cells #[Value.slice A5 64 c5, .int .i64 1, .int .i64 1] 24)).below k6 (by first | omega | (simp; omega))
    have bQ6 := (bQ5.alloc (.cells #[Value.slice A5 64 c5, .int .i64 1, .int .i64 1] 24)).below k6 (by first | omega | (simp; omega))
    have K6 := hide (below_more (K5.out.alloc K5.out.size (.cells #[Value.slice A5 64 c5, .int .i64 1, .int .i64 1] 24)) (Nat.le_refl _) k6)
    have z6 := k6.size
    try simp at z6
    have R6 := hide h6
    clear h6
    clear k6
    have zp6 := bP6.lt
    have zq6 := bQ6.lt
    obtain ⟨x0, x1, x2, y0, y1, y2⟩ := bP6.three
    obtain ⟨u0, u1, u2, v0, v1, v2⟩ := bQ6.three
    go_wp2_with fail
    generalize hS : (((w6.setCell ⟨gq, 0, none⟩ (.slice A6 4 c6)).setCell ⟨gq, 1, none⟩ (.int .i64 1)).setCell ⟨gq, 2, none⟩ (.int .i64 1)) = W6
    have bPs : Blk W6 gp 24 #[Value.slice A2 0 c2, .int .i64 1, .int .i64 1] := by rw [← hS]; exact ((bP6.far (p := ⟨gq, 0, none⟩) hne _).far (p := ⟨gq, 1, none⟩) hne _).far (p := ⟨gq, 2, none⟩) hne _
    have bQs : Blk W6 gq 24 #[Value.slice A6 4 c6, .int .i64 1, .int .i64 1] := by rw [← hS]; exact ((bQ6.set_ 0 _).set_ 1 _).set_ 2 _
    have Ks : Hid (Below w.heap.size w W6) := hide (by rw [← hS]; exact ((K6.out.setCell (by simp; omega) _).setCell (by simp; omega) _).setCell (by simp; omega) _)
    have zs6 : W6.heap.size = w6.heap.size := by rw [← hS]; simp [World.setCell]
    have HS := hide hS
    clear hS x0 x1 x2 y0 y1 y2 u0 u1 u2 v0 v1 v2
    have zps := bPs.lt
    have zqs := bQs.lt
    obtain ⟨x0, x1, x2, y0, y1, y2⟩ := bPs.three
    obtain ⟨u0, u1, u2, v0, v1, v2⟩ := bQs.three
    refine (read_n A2 0 c2 1 1 [] 1 _ Reads.none_ (by omega) (Nat.zero_le _) hc2 (by omega) (by omega) 0 0 29 (by decide) (by decide) (by decide)).mono ?_
    rintro e w7 ⟨A7, c7, d7, B7, e7, f7, rfl, _, _, k7⟩
    clear x0 x1 x2 y0 y1 y2 u0 u1 u2 v0 v1 v2
    have bP7 := (bPs).below k7 (by first | omega | (simp; omega))
    have bQ7 := (bQs).below k7 (by first | omega | (simp; omega))
    have K7 := hide (below_more (Ks.out) (Nat.le_refl _) k7)
    have z7 := k7.size
    try simp at z7
    clear k7
    have zp7 := bP7.lt
    have zq7 := bQ7.lt
    obtain ⟨x0, x1, x2, y0, y1, y2⟩ := bP7.three
    obtain ⟨u0, u1, u2, v0, v1, v2⟩ := bQ7.three
    go_wp2_with fail
    refine (open_n A2 0 c2 1 1 true (-1) _ [] Reads.none_ (by omega) 1 0 0 (by decide) (by decide) (by decide)).mono ?_
    rintro e w8 ⟨A8, c8, d8, rfl, h8, k8⟩
    have hc8 := h8.caps.2
    clear h8
    clear x0 x1 x2 y0 y1 y2 u0 u1 u2 v0 v1 v2
    have bP8 := (bP7.alloc (.cells #[Value.slice A7 0 c7, .int .i64 1, .int .i64 1] 24)).below k8 (by first | omega | (simp; omega))
    have bQ8 := (bQ7.alloc (.cells #[Value.slice A7 0 c7, .int .i64 1, .int .i64 1] 24)).below k8 (by first | omega | (simp; omega))
    have K8 := hide (below_more (K7.out.alloc K7.out.size (.cells #[Value.slice A7 0 c7, .int .i64 1, .int .i64 1] 24)) (Nat.le_refl _) k8)
    have z8 := k8.size
    try simp at z8
    clear k8
    have zp8 := bP8.lt
    have zq8 := bQ8.lt
    obtain ⟨x0, x1, x2, y0, y1, y2⟩ := bP8.three
    obtain ⟨u0, u1, u2, v0, v1, v2⟩ := bQ8.three
    go_wp2_with fail
    refine (read_n A8 0 c8 1 0 [] 1 _ Reads.none_ (by omega) (Nat.zero_le _) hc8 (by omega) (by omega) 0 0 0 (by decide) (by decide) (by decide)).mono ?_
    rintro e w9 ⟨A9, c9, d9, B9, e9, f9, rfl, _, _, k9⟩
    clear x0 x1 x2 y0 y1 y2 u0 u1 u2 v0 v1 v2
    have bP9 := (bP8.alloc (.cells #[Value.slice A8 0 c8, .int .i64 1, .int .i64 0] 24)).below k9 (by first | omega | (simp; omega))
    have bQ9 := (bQ8.alloc (.cells #[Value.slice A8 0 c8, .int .i64 1, .int .i64 0] 24)).below k9 (by first | omega | (simp; omega))
    have K9 := hide (below_more (K8.out.alloc K8.out.size (.cells #[Value.slice A8 0 c8, .int .i64 1, .int .i64 0] 24)) (Nat.le_refl _) k9)
    have z9 := k9.size
    try simp at z9
    clear k9
    have zp9 := bP9.lt
    have zq9 := bQ9.lt
    obtain ⟨x0, x1, x2, y0, y1, y2⟩ := bP9.three
    obtain ⟨u0, u1, u2, v0, v1, v2⟩ := bQ9.three
    go_wp2_with fail
    refine (write_n none 0 0 0 0 [] (some ⟨w9.heap.size + 1, 0, none⟩) 1 1 [1] _ Reads.none_ (by omega) ?c1 (by omega) (by omega) 0 28 (by decide) (by decide) (by omega)).mono ?_
    case c1 =>
      have h1 := rd_lit (w9.alloc (.cells #[Value.slice A9 0 c9, .int .i64 1, .int .i64 0] 24))
      simpa only [World.size_alloc] using h1
    rintro e wA ⟨AA, cA, dA, rfl, _, kA⟩
    clear x0 x1 x2 y0 y1 y2 u0 u1 u2 v0 v1 v2
    have bPA := ((bP9.alloc (.cells #[Value.slice A9 0 c9, .int .i64 1, .int .i64 0] 24)).alloc (.cells #[.int .u8 1] 5)).below kA (by first | omega | (simp; omega))
    have bQA := ((bQ9.alloc (.cells #[Value.slice A9 0 c9, .int .i64 1, .int .i64 0] 24)).alloc (.cells #[.int .u8 1] 5)).below kA (by first | omega | (simp; omega))
    have KA := hide (below_more ((K9.out.alloc K9.out.size (.cells #[Value.slice A9 0 c9, .int .i64 1, .int .i64 0] 24)).alloc (by simp; have := K9.out.size; omega) (.cells #[.int .u8 1] 5)) (Nat.le_refl _) kA)
    have zA := kA.size
    try simp at zA
    clear kA
    have zpA := bPA.lt
    have zqA := bQA.lt
    obtain ⟨x0, x1, x2, y0, y1, y2⟩ := bPA.three
    obtain ⟨u0, u1, u2, v0, v1, v2⟩ := bQA.three
    go_wp2_with fail
    refine (check_any A6 4 c6 1 1 _ (by unfold maxLen; omega)).mono ?_
    rintro e wB ⟨rfl, rfl⟩
    rw [show okP 4 1 1 = true by decide]
    go_wp2_with fail
    refine (ready_any A6 4 c6 1 1 false _ (by unfold maxLen; omega)).mono ?_
    rintro e wC ⟨rfl, kC⟩
    rw [show rdyS 4 1 1 false = true by decide]
    have KB := hide ((KA.out.alloc KA.out.size (.cells #[Value.slice AA 0 cA, .int .i64 0, .int .i64 0] 24)).alloc (by simp; have := KA.out.size; omega) (.cells #[Value.slice A6 4 c6, .int .i64 1, .int .i64 1] 24))
    clear x0 x1 x2 y0 y1 y2 u0 u1 u2 v0 v1 v2
    have bPC := ((bPA.alloc (.cells #[Value.slice AA 0 cA, .int .i64 0, .int .i64 0] 24)).alloc (.cells #[Value.slice A6 4 c6, .int .i64 1, .int .i64 1] 24)).below kC (by first | omega | (simp; omega))
    have bQC := ((bQA.alloc (.cells #[Value.slice AA 0 cA, .int .i64 0, .int .i64 0] 24)).alloc (.cells #[Value.slice A6 4 c6, .int .i64 1, .int .i64 1] 24)).below kC (by first | omega | (simp; omega))
    have KC := hide (below_more (KB.out) (Nat.le_refl _) kC)
    have zC := kC.size
    try simp at zC
    clear kC
    have zpC := bPC.lt
    have zqC := bQC.lt
    obtain ⟨x0, x1, x2, y0, y1, y2⟩ := bPC.three
    obtain ⟨u0, u1, u2, v0, v1, v2⟩ := bQC.three
    go_wp2_with fail
    refine (ready_any A2 0 c2 1 1 false _ (by unfold maxLen; omega)).mono ?_
    rintro e wD ⟨rfl, kD⟩
    rw [show rdyS 0 1 1 false = false by decide]
    go_wp2
    go_ret
    exact ⟨rfl, below_more KC.out (Nat.le_refl _) kD⟩
#print axioms heads_any
end Go.Proofs.Ytpbhkceinnganaa
