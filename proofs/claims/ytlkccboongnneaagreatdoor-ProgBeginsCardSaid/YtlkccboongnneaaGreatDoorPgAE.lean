/- What the laws ask at any rate: the walk. -/
import Derived.Test.YtlkccboongnneaaGreatDoorPgAD
import Derived.Lib.SmallJoins
namespace Go.Proofs.YtlkccboongnneaaGreatDoor
open Go.RowKit
set_option linter.unusedVariables false
theorem lit_rd (w : World) (cs : Array Value) (t : TypeId) (n : Nat) (xs : List Value) (hn : cs.size = n) (hx : cs.toList = xs) : Reads (w.alloc (.cells cs t)) (w.heap.size + 1) 1 (some ⟨w.heap.size, 0, none⟩) n xs := by
  subst hx
  refine ⟨by rw [Array.length_toList, hn, Nat.mul_one], fun _ => ⟨_, rfl, by simp, fun j u hj => ?_⟩⟩
  rw [add_plain_, Nat.zero_add, (Blk.new w t cs).cell j]
  simpa using hj
theorem lit_rdA (w : World) (cs : Array Value) (t : TypeId) (n : Nat) (xs : List Value) (hn : cs.size = n) (hx : cs.toList = xs) : Reads (w.alloc (.cells cs t)) (w.alloc (.cells cs t)).heap.size 1 (some ⟨w.heap.size, 0, none⟩) n xs := (lit_rd w cs t n xs hn hx).more (by simp)
theorem lit_rdM (w : World) (cs : Array Value) (t : TypeId) (fr : Nat × Nat) (n : Nat) (xs : List Value) (hn : cs.size = n) (hx : cs.toList = xs) : Reads (w.alloc (.cells cs t fr)) (w.alloc (.cells cs t fr)).heap.size 1 (some ⟨w.heap.size, 0, none⟩) n xs := by
  subst hx
  refine ⟨by rw [Array.length_toList, hn, Nat.mul_one], fun _ => ⟨_, rfl, by simp, fun j u hj => ?_⟩⟩
  rw [add_plain_, Nat.zero_add, Go.Joins.cell_alloc_mark_at w cs t fr w.heap.size j rfl]
  simpa using hj
theorem field0 (a b c d e : Value) (W : World) : (Instr.field 53 (.agg #[a, b, c, d, e]) 0).run Tryz.prog W = .ok a W := by kernel_rfl
theorem field4 (a b c d e : Value) (W : World) : (Instr.field 53 (.agg #[a, b, c, d, e]) 4).run Tryz.prog W = .ok e W := by kernel_rfl
set_option maxRecDepth 100000 in
set_option maxHeartbeats 16000000 in
theorem heads_any (w : World) (hS : StB w.heap.size w) : Calls Tryz.prog 7 #[] w fun e w' => e = .returned (.bool true) ∧ Below w.heap.size w w' := by
  have HS := hide hS
  have hfd0 := field0
  have hfd4 := field4
  clear hS
  go_enter Tryz.func7, Tryz.ntmps7
  have HB : Hid (Below w.heap.size w w) := hide (Below.refl _ _)
  go_wp2_with fail
  refine (beginL [101, 99, 104, 111] [[101, 99, 104, 111], [97], [98]] [0, 1, 2] (some ⟨w.heap.size, 0, none⟩) 3 (some ⟨w.heap.size + 1, 0, none⟩) 3 ((w.alloc (.cells #[.string ⟨#[101, 99, 104, 111]⟩, .string ⟨#[97]⟩, .string ⟨#[98]⟩] 9)).alloc (.cells #[.int .i64 0, .int .i64 1, .int .i64 2] 3)) (((lit_rdA w #[.string ⟨#[101, 99, 104, 111]⟩, .string ⟨#[97]⟩, .string ⟨#[98]⟩] 9 3 _ rfl rfl).below (on_alloc _ _)).more (on_alloc _ _).size) (by have := lit_rdA (w.alloc (.cells #[.string ⟨#[101, 99, 104, 111]⟩, .string ⟨#[97]⟩, .string ⟨#[98]⟩] 9)) #[.int .i64 0, .int .i64 1, .int .i64 2] 3 3 _ rfl rfl; rw [show (w.alloc (.cells #[.string ⟨#[101, 99, 104, 111]⟩, .string ⟨#[97]⟩, .string ⟨#[98]⟩] 9)).heap.size = w.heap.size + 1 from by simp] at this; exact this) ⟨by omega, by omega⟩).mono ?_
  rintro e w2 ⟨s0, rfl, hI, hb⟩
  (try dsimp only [hP0, hQ, hR, hC0, hC, hX, bornP])
  have hT : Below w.heap.size w w2 := ((on_alloc w (.cells #[.string ⟨#[101, 99, 104, 111]⟩, .string ⟨#[97]⟩, .string ⟨#[98]⟩] 9)).alloc (by first | (simp; done) | (simp; omega)) (.cells #[.int .i64 0, .int .i64 1, .int .i64 2] 3)).trans (hb.mono (by first | (simp; done) | (simp; omega)))
  have HB_ := hide (Below.trans HB.out (hT.mono (Nat.le_refl _)))
  have IP := hide (hI)
  clear hb hT HB
  have HB := HB_
  clear HB_
  go_wp2_with fail
  refine (nextL n_P0 f_P0 (by decide) t_P0 s0 (w2.alloc (.cells #[Value.int .i64 1, .string ⟨#[101, 99, 104, 111]⟩, .slice s0.A s0.an s0.ac, .slice s0.E s0.en s0.ec, .slice s0.F s0.fn s0.fc, .bool false, .int .i64 0, .int .i64 0, .int .i64 0, .slice s0.D s0.dn s0.dc] 26)) w (in_on IP.out (on_alloc _ _)) HS.out ((HB.out.alloc (by first | exact HB.out.size | (have := HB.out.size; simp; omega)) (.cells #[Value.int .i64 1, .string ⟨#[101, 99, 104, 111]⟩, .slice s0.A s0.an s0.ac, .slice s0.E s0.en s0.ec, .slice s0.F s0.fn s0.fc, .bool false, .int .i64 0, .int .i64 0, .int .i64 0, .slice s0.D s0.dn s0.dc] 26)))).mono ?_
  rintro e w3 ⟨D, dn, dc, rfl, hD, hdc, hb⟩
  (try dsimp only [hP0, hQ, hR, hC0, hC, hX, bornP])
  have hT : Below w2.heap.size w2 w3 := (on_alloc w2 (.cells #[Value.int .i64 1, .string ⟨#[101, 99, 104, 111]⟩, .slice s0.A s0.an s0.ac, .slice s0.E s0.en s0.ec, .slice s0.F s0.fn s0.fc, .bool false, .int .i64 0, .int .i64 0, .int .i64 0, .slice s0.D s0.dn s0.dc] 26)).trans (hb.mono (by first | (simp; done) | (simp; omega)))
  have HB_ := hide (Below.trans HB.out (hT.mono HB.out.size))
  have IP_ := hide (in_on IP.out hT)
  have BXw3 := hide ((Blk.new w2 _ #[Value.int .i64 1, .string ⟨#[101, 99, 104, 111]⟩, .slice s0.A s0.an s0.ac, .slice s0.E s0.en s0.ec, .slice s0.F s0.fn s0.fc, .bool false, .int .i64 0, .int .i64 0, .int .i64 0, .slice s0.D s0.dn s0.dc]).below hb (by first | (simp; done) | (simp; omega)))
  have RD := hide (hD)
  clear hb hT HB IP
  have HB := HB_
  have IP := IP_
  clear HB_ IP_
  obtain ⟨⟨c0, c1, c2, c3, c4, c5, c6, c7, c8, c9⟩, f0, f1, f2, f3, f4, f5, f6, f7, f8, f9⟩ := ten BXw3.out
  have hlt : w2.heap.size < w3.heap.size := BXw3.out.lt
  go_wp2_with fail
  clear c0 c1 c2 c3 c4 c5 c6 c7 c8 c9 f0 f1 f2 f3 f4 f5 f6 f7 f8 f9
  refine (afterL a_P0 f_P0 (by decide) t_P0 (by decide) (by omega) s0 none 0 0 (by omega) (w3.alloc (.cells #[.int .i64 2, .int .i64 1, .int .i64 0, .slice D dn dc, .int .i64 0] 53)) w ⟨rfl, fun h => absurd h (by omega)⟩ (in_on IP.out (on_alloc _ _)) HS.out ((HB.out.alloc (by first | exact HB.out.size | (have := HB.out.size; simp; omega)) (.cells #[.int .i64 2, .int .i64 1, .int .i64 0, .slice D dn dc, .int .i64 0] 53)))).mono ?_
  rintro e w4 ⟨z1, rfl, hI, hb⟩
  (try dsimp only [hP0, hQ, hR, hC0, hC, hX, bornP])
  have hT : Below w3.heap.size w3 w4 := (on_alloc w3 (.cells #[.int .i64 2, .int .i64 1, .int .i64 0, .slice D dn dc, .int .i64 0] 53)).trans (hb.mono (by first | (simp; done) | (simp; omega)))
  have HB_ := hide (Below.trans HB.out (hT.mono HB.out.size))
  have IP_ := hide (in_on IP.out hT)
  have BXw3_ := hide (BXw3.out.below hT BXw3.out.lt)
  have RD_ := hide ((RD.out.below hT).more hT.size)
  have BXw4 := hide ((Blk.new w3 _ #[.int .i64 2, .int .i64 1, .int .i64 0, .slice D dn dc, .int .i64 0]).below hb (by first | (simp; done) | (simp; omega)))
  have IQ := hide (hI)
  clear hb hT HB IP BXw3 RD
  have HB := HB_
  have IP := IP_
  have BXw3 := BXw3_
  have RD := RD_
  clear HB_ IP_ BXw3_ RD_
  go_wp2_with fail
  refine (afterL a_Q f_Q (by decide) t_P0 (by decide) (by omega) z1 none 0 0 (by omega) (w4.alloc (.cells #[Value.int .i64 1, .string ⟨#[101, 99, 104, 111]⟩, .slice z1.A z1.an z1.ac, .slice z1.E z1.en z1.ec, .slice z1.F z1.fn z1.fc, .bool false, .int .i64 0, .int .i64 3, .int .i64 0, .slice z1.D z1.dn z1.dc] 26)) w ⟨rfl, fun h => absurd h (by omega)⟩ (in_on IQ.out (on_alloc _ _)) HS.out ((HB.out.alloc (by first | exact HB.out.size | (have := HB.out.size; simp; omega)) (.cells #[Value.int .i64 1, .string ⟨#[101, 99, 104, 111]⟩, .slice z1.A z1.an z1.ac, .slice z1.E z1.en z1.ec, .slice z1.F z1.fn z1.fc, .bool false, .int .i64 0, .int .i64 3, .int .i64 0, .slice z1.D z1.dn z1.dc] 26)))).mono ?_
  rintro e w5 ⟨z2, rfl, hI, hb⟩
  (try dsimp only [hP0, hQ, hR, hC0, hC, hX, bornP])
  have hT : Below w4.heap.size w4 w5 := (on_alloc w4 (.cells #[Value.int .i64 1, .string ⟨#[101, 99, 104, 111]⟩, .slice z1.A z1.an z1.ac, .slice z1.E z1.en z1.ec, .slice z1.F z1.fn z1.fc, .bool false, .int .i64 0, .int .i64 3, .int .i64 0, .slice z1.D z1.dn z1.dc] 26)).trans (hb.mono (by first | (simp; done) | (simp; omega)))
  have HB_ := hide (Below.trans HB.out (hT.mono HB.out.size))
  have IP_ := hide (in_on IP.out hT)
  have BXw3_ := hide (BXw3.out.below hT BXw3.out.lt)
  have RD_ := hide ((RD.out.below hT).more hT.size)
  have BXw4_ := hide (BXw4.out.below hT BXw4.out.lt)
  have IQ_ := hide (in_on IQ.out hT)
  have BXw5 := hide ((Blk.new w4 _ #[Value.int .i64 1, .string ⟨#[101, 99, 104, 111]⟩, .slice z1.A z1.an z1.ac, .slice z1.E z1.en z1.ec, .slice z1.F z1.fn z1.fc, .bool false, .int .i64 0, .int .i64 3, .int .i64 0, .slice z1.D z1.dn z1.dc]).below hb (by first | (simp; done) | (simp; omega)))
  have IR := hide (hI)
  clear hb hT HB IP BXw3 RD BXw4 IQ
  have HB := HB_
  have IP := IP_
  have BXw3 := BXw3_
  have RD := RD_
  have BXw4 := BXw4_
  have IQ := IQ_
  clear HB_ IP_ BXw3_ RD_ BXw4_ IQ_
  go_wp2_with fail
  refine (beginL [99, 97, 116] [] [] none 0 none 0 (w5.alloc (.cells #[Value.int .i64 1, .string ⟨#[101, 99, 104, 111]⟩, .slice z2.A z2.an z2.ac, .slice z2.E z2.en z2.ec, .slice z2.F z2.fn z2.fc, .bool false, .int .i64 0, .int .i64 4, .int .i64 0, .slice z2.D z2.dn z2.dc] 26)) ⟨rfl, fun h => absurd h (by omega)⟩ ⟨rfl, fun h => absurd h (by omega)⟩ ⟨by omega, by omega⟩).mono ?_
  rintro e w6 ⟨s1, rfl, hI, hb⟩
  (try dsimp only [hP0, hQ, hR, hC0, hC, hX, bornP])
  have hT : Below w5.heap.size w5 w6 := (on_alloc w5 (.cells #[Value.int .i64 1, .string ⟨#[101, 99, 104, 111]⟩, .slice z2.A z2.an z2.ac, .slice z2.E z2.en z2.ec, .slice z2.F z2.fn z2.fc, .bool false, .int .i64 0, .int .i64 4, .int .i64 0, .slice z2.D z2.dn z2.dc] 26)).trans (hb.mono (by first | (simp; done) | (simp; omega)))
  have HB_ := hide (Below.trans HB.out (hT.mono HB.out.size))
  have IP_ := hide (in_on IP.out hT)
  have BXw3_ := hide (BXw3.out.below hT BXw3.out.lt)
  have RD_ := hide ((RD.out.below hT).more hT.size)
  have BXw4_ := hide (BXw4.out.below hT BXw4.out.lt)
  have IQ_ := hide (in_on IQ.out hT)
  have BXw5_ := hide (BXw5.out.below hT BXw5.out.lt)
  have IR_ := hide (in_on IR.out hT)
  have BXw6 := hide ((Blk.new w5 _ #[Value.int .i64 1, .string ⟨#[101, 99, 104, 111]⟩, .slice z2.A z2.an z2.ac, .slice z2.E z2.en z2.ec, .slice z2.F z2.fn z2.fc, .bool false, .int .i64 0, .int .i64 4, .int .i64 0, .slice z2.D z2.dn z2.dc]).below hb (by first | (simp; done) | (simp; omega)))
  have IC0 := hide (hI)
  clear hb hT HB IP BXw3 RD BXw4 IQ BXw5 IR
  have HB := HB_
  have IP := IP_
  have BXw3 := BXw3_
  have RD := RD_
  have BXw4 := BXw4_
  have IQ := IQ_
  have BXw5 := BXw5_
  have IR := IR_
  clear HB_ IP_ BXw3_ RD_ BXw4_ IQ_ BXw5_ IR_
  have kd := Go.Joins.run_convert_bytes_const_at (P := Tryz.prog) w6 24 5 #[.int .u8 120] 1 1 (w6.heap.size) (by simp) Tryz.underlying24 Tryz.underlying5
  go_wp2_with fail
  refine (afterL a_C0 f_C0 (by decide) t_C0 (by decide) (by omega) s1 (some ⟨w6.heap.size, 0, none⟩) 1 1 (by omega) (w6.alloc (.cells #[.int .u8 120] 5 (1, 2))) w (lit_rdM w6 #[.int .u8 120] 5 (1, 2) 1 _ rfl rfl) (in_on IC0.out (on_alloc _ _)) HS.out ((HB.out.alloc (by first | exact HB.out.size | (have := HB.out.size; simp; omega)) (.cells #[.int .u8 120] 5 (1, 2))))).mono ?_
  rintro e w7 ⟨z3, rfl, hI, hb⟩
  (try dsimp only [hP0, hQ, hR, hC0, hC, hX, bornP])
  have hT : Below w6.heap.size w6 w7 := (on_alloc w6 (.cells #[.int .u8 120] 5 (1, 2))).trans (hb.mono (by first | (simp; done) | (simp; omega)))
  have HB_ := hide (Below.trans HB.out (hT.mono HB.out.size))
  have IP_ := hide (in_on IP.out hT)
  have BXw3_ := hide (BXw3.out.below hT BXw3.out.lt)
  have RD_ := hide ((RD.out.below hT).more hT.size)
  have BXw4_ := hide (BXw4.out.below hT BXw4.out.lt)
  have IQ_ := hide (in_on IQ.out hT)
  have BXw5_ := hide (BXw5.out.below hT BXw5.out.lt)
  have IR_ := hide (in_on IR.out hT)
  have BXw6_ := hide (BXw6.out.below hT BXw6.out.lt)
  have IC0_ := hide (in_on IC0.out hT)
  have IC := hide (hI)
  clear hb hT HB IP BXw3 RD BXw4 IQ BXw5 IR BXw6 IC0
  have HB := HB_
  have IP := IP_
  have BXw3 := BXw3_
  have RD := RD_
  have BXw4 := BXw4_
  have IQ := IQ_
  have BXw5 := BXw5_
  have IR := IR_
  have BXw6 := BXw6_
  have IC0 := IC0_
  clear HB_ IP_ BXw3_ RD_ BXw4_ IQ_ BXw5_ IR_ BXw6_ IC0_
  clear kd
  have kd := Go.Joins.run_convert_bytes_const_at (P := Tryz.prog) (w7.alloc (.cells #[Value.int .i64 1, .string ⟨#[99, 97, 116]⟩, .slice z3.A z3.an z3.ac, .slice z3.E z3.en z3.ec, .slice z3.F z3.fn z3.fc, .bool false, .int .i64 0, .int .i64 2, .int .i64 0, .slice z3.D z3.dn z3.dc] 26)) 24 5 #[.int .u8 35, .int .u8 33, .int .u8 99, .int .u8 97, .int .u8 116, .int .u8 10, .int .u8 120] 7 7 (w7.heap.size + 1) (by simp) Tryz.underlying24 Tryz.underlying5
  go_wp2_with fail
  refine (program_any [35, 33, 99, 97, 116, 10, 120] (some ⟨w7.heap.size + 1, 0, none⟩) 7 7 (by omega) ((w7.alloc (.cells #[Value.int .i64 1, .string ⟨#[99, 97, 116]⟩, .slice z3.A z3.an z3.ac, .slice z3.E z3.en z3.ec, .slice z3.F z3.fn z3.fc, .bool false, .int .i64 0, .int .i64 2, .int .i64 0, .slice z3.D z3.dn z3.dc] 26)).alloc (.cells #[.int .u8 35, .int .u8 33, .int .u8 99, .int .u8 97, .int .u8 116, .int .u8 10, .int .u8 120] 5 (7, 8))) (by have := lit_rdM (w7.alloc (.cells #[Value.int .i64 1, .string ⟨#[99, 97, 116]⟩, .slice z3.A z3.an z3.ac, .slice z3.E z3.en z3.ec, .slice z3.F z3.fn z3.fc, .bool false, .int .i64 0, .int .i64 2, .int .i64 0, .slice z3.D z3.dn z3.dc] 26)) #[.int .u8 35, .int .u8 33, .int .u8 99, .int .u8 97, .int .u8 116, .int .u8 10, .int .u8 120] 5 (7, 8) 7 _ rfl rfl; simp only [World.size_alloc] at this ⊢; exact this)).mono ?_
  rintro e w8 ⟨rfl, hb⟩
  (try dsimp only [hP0, hQ, hR, hC0, hC, hX, bornP])
  have hT : Below w7.heap.size w7 w8 := ((on_alloc w7 (.cells #[Value.int .i64 1, .string ⟨#[99, 97, 116]⟩, .slice z3.A z3.an z3.ac, .slice z3.E z3.en z3.ec, .slice z3.F z3.fn z3.fc, .bool false, .int .i64 0, .int .i64 2, .int .i64 0, .slice z3.D z3.dn z3.dc] 26)).alloc (by first | (simp; done) | (simp; omega)) (.cells #[.int .u8 35, .int .u8 33, .int .u8 99, .int .u8 97, .int .u8 116, .int .u8 10, .int .u8 120] 5 (7, 8))).trans (hb.mono (by first | (simp; done) | (simp; omega)))
  have HB_ := hide (Below.trans HB.out (hT.mono HB.out.size))
  have IP_ := hide (in_on IP.out hT)
  have BXw3_ := hide (BXw3.out.below hT BXw3.out.lt)
  have RD_ := hide ((RD.out.below hT).more hT.size)
  have BXw4_ := hide (BXw4.out.below hT BXw4.out.lt)
  have IQ_ := hide (in_on IQ.out hT)
  have BXw5_ := hide (BXw5.out.below hT BXw5.out.lt)
  have IR_ := hide (in_on IR.out hT)
  have BXw6_ := hide (BXw6.out.below hT BXw6.out.lt)
  have IC0_ := hide (in_on IC0.out hT)
  have IC_ := hide (in_on IC.out hT)
  have BXw8 := hide ((Blk.new w7 _ #[Value.int .i64 1, .string ⟨#[99, 97, 116]⟩, .slice z3.A z3.an z3.ac, .slice z3.E z3.en z3.ec, .slice z3.F z3.fn z3.fc, .bool false, .int .i64 0, .int .i64 2, .int .i64 0, .slice z3.D z3.dn z3.dc] |>.alloc (.cells #[.int .u8 35, .int .u8 33, .int .u8 99, .int .u8 97, .int .u8 116, .int .u8 10, .int .u8 120] 5 (7, 8))).below hb (by first | (simp; done) | (simp; omega)))
  clear hb hT HB IP BXw3 RD BXw4 IQ BXw5 IR BXw6 IC0 IC
  have HB := HB_
  have IP := IP_
  have BXw3 := BXw3_
  have RD := RD_
  have BXw4 := BXw4_
  have IQ := IQ_
  have BXw5 := BXw5_
  have IR := IR_
  have BXw6 := BXw6_
  have IC0 := IC0_
  have IC := IC_
  clear HB_ IP_ BXw3_ RD_ BXw4_ IQ_ BXw5_ IR_ BXw6_ IC0_ IC_
  rw [p_cat]
  dsimp only
  clear kd
  have kd := Go.Joins.run_convert_bytes_const_at (P := Tryz.prog) w8 24 5 #[.int .u8 35, .int .u8 33, .int .u8 114, .int .u8 109] 4 4 (w8.heap.size) (by simp) Tryz.underlying24 Tryz.underlying5
  go_wp2_with fail
  refine (program_any [35, 33, 114, 109] (some ⟨w8.heap.size, 0, none⟩) 4 4 (by omega) (w8.alloc (.cells #[.int .u8 35, .int .u8 33, .int .u8 114, .int .u8 109] 5 (4, 5))) (lit_rdM w8 #[.int .u8 35, .int .u8 33, .int .u8 114, .int .u8 109] 5 (4, 5) 4 _ rfl rfl)).mono ?_
  rintro e w9 ⟨rfl, hb⟩
  (try dsimp only [hP0, hQ, hR, hC0, hC, hX, bornP])
  have hT : Below w8.heap.size w8 w9 := (on_alloc w8 (.cells #[.int .u8 35, .int .u8 33, .int .u8 114, .int .u8 109] 5 (4, 5))).trans (hb.mono (by first | (simp; done) | (simp; omega)))
  have HB_ := hide (Below.trans HB.out (hT.mono HB.out.size))
  have IP_ := hide (in_on IP.out hT)
  have BXw3_ := hide (BXw3.out.below hT BXw3.out.lt)
  have RD_ := hide ((RD.out.below hT).more hT.size)
  have BXw4_ := hide (BXw4.out.below hT BXw4.out.lt)
  have IQ_ := hide (in_on IQ.out hT)
  have BXw5_ := hide (BXw5.out.below hT BXw5.out.lt)
  have IR_ := hide (in_on IR.out hT)
  have BXw6_ := hide (BXw6.out.below hT BXw6.out.lt)
  have IC0_ := hide (in_on IC0.out hT)
  have IC_ := hide (in_on IC.out hT)
  have BXw8_ := hide (BXw8.out.below hT BXw8.out.lt)
  clear hb hT HB IP BXw3 RD BXw4 IQ BXw5 IR BXw6 IC0 IC BXw8
  have HB := HB_
  have IP := IP_
  have BXw3 := BXw3_
  have RD := RD_
  have BXw4 := BXw4_
  have IQ := IQ_
  have BXw5 := BXw5_
  have IR := IR_
  have BXw6 := BXw6_
  have IC0 := IC0_
  have IC := IC_
  have BXw8 := BXw8_
  clear HB_ IP_ BXw3_ RD_ BXw4_ IQ_ BXw5_ IR_ BXw6_ IC0_ IC_ BXw8_
  rw [p_rm]
  dsimp only
  obtain ⟨i0, i1, i2, i3, i4, -⟩ := five_ BXw4.out
  have hcvD := run_string_of (P := Tryz.prog) w9 w9.heap.size 24 9 5 D dn dc [97, 32, 98, 10] Tryz.underlying24 Tryz.underlying5 Tryz.underlying9 RD.out
  obtain ⟨⟨k0, k1, k2, k3, k4, k5, k6, k7, k8, k9⟩, -⟩ := ten BXw5.out
  have hcvQ := run_string_of (P := Tryz.prog) w9 w9.heap.size 24 9 5 z1.D z1.dn z1.dc [32, 98, 10] Tryz.underlying24 Tryz.underlying5 Tryz.underlying9 IQ.out.d
  obtain ⟨⟨c0, c1, c2, c3, c4, c5, c6, c7, c8, c9⟩, f0, f1, f2, f3, f4, f5, f6, f7, f8, f9⟩ := ten BXw6.out
  go_wp2_with fail
  clear c0 c1 c2 c3 c4 c5 c6 c7 c8 c9 f0 f1 f2 f3 f4 f5 f6 f7 f8 f9
  refine (nextL n_R f_R (by decide) t_P0 z2 w9 w IR.out HS.out HB.out).mono ?_
  rintro e w10 ⟨D2, dn2, dc2, rfl, -, -, hb⟩
  (try dsimp only [hP0, hQ, hR, hC0, hC, hX, bornP])
  have hT : Below w9.heap.size w9 w10 := (Below.refl _ _).trans (hb.mono (by first | (simp; done) | (simp; omega)))
  have HB_ := hide (Below.trans HB.out (hT.mono HB.out.size))
  have IP_ := hide (in_on IP.out hT)
  have BXw3_ := hide (BXw3.out.below hT BXw3.out.lt)
  have RD_ := hide ((RD.out.below hT).more hT.size)
  have BXw4_ := hide (BXw4.out.below hT BXw4.out.lt)
  have IQ_ := hide (in_on IQ.out hT)
  have BXw5_ := hide (BXw5.out.below hT BXw5.out.lt)
  have IR_ := hide (in_on IR.out hT)
  have BXw6_ := hide (BXw6.out.below hT BXw6.out.lt)
  have IC0_ := hide (in_on IC0.out hT)
  have IC_ := hide (in_on IC.out hT)
  have BXw8_ := hide (BXw8.out.below hT BXw8.out.lt)
  clear hb hT HB IP BXw3 RD BXw4 IQ BXw5 IR BXw6 IC0 IC BXw8
  have HB := HB_
  have IP := IP_
  have BXw3 := BXw3_
  have RD := RD_
  have BXw4 := BXw4_
  have IQ := IQ_
  have BXw5 := BXw5_
  have IR := IR_
  have BXw6 := BXw6_
  have IC0 := IC0_
  have IC := IC_
  have BXw8 := BXw8_
  clear HB_ IP_ BXw3_ RD_ BXw4_ IQ_ BXw5_ IR_ BXw6_ IC0_ IC_ BXw8_
  obtain ⟨⟨c0, c1, c2, c3, c4, c5, c6, c7, c8, c9⟩, f0, f1, f2, f3, f4, f5, f6, f7, f8, f9⟩ := ten BXw6.out
  go_wp2_with fail
  clear c0 c1 c2 c3 c4 c5 c6 c7 c8 c9 f0 f1 f2 f3 f4 f5 f6 f7 f8 f9
  refine (nextL n_R f_R (by decide) t_P0 z2 w10 w IR.out HS.out HB.out).mono ?_
  rintro e w11 ⟨D3, dn3, dc3, rfl, -, -, hb⟩
  (try dsimp only [hP0, hQ, hR, hC0, hC, hX, bornP])
  have hT : Below w10.heap.size w10 w11 := (Below.refl _ _).trans (hb.mono (by first | (simp; done) | (simp; omega)))
  have HB_ := hide (Below.trans HB.out (hT.mono HB.out.size))
  have IP_ := hide (in_on IP.out hT)
  have BXw3_ := hide (BXw3.out.below hT BXw3.out.lt)
  have RD_ := hide ((RD.out.below hT).more hT.size)
  have BXw4_ := hide (BXw4.out.below hT BXw4.out.lt)
  have IQ_ := hide (in_on IQ.out hT)
  have BXw5_ := hide (BXw5.out.below hT BXw5.out.lt)
  have IR_ := hide (in_on IR.out hT)
  have BXw6_ := hide (BXw6.out.below hT BXw6.out.lt)
  have IC0_ := hide (in_on IC0.out hT)
  have IC_ := hide (in_on IC.out hT)
  have BXw8_ := hide (BXw8.out.below hT BXw8.out.lt)
  clear hb hT HB IP BXw3 RD BXw4 IQ BXw5 IR BXw6 IC0 IC BXw8
  have HB := HB_
  have IP := IP_
  have BXw3 := BXw3_
  have RD := RD_
  have BXw4 := BXw4_
  have IQ := IQ_
  have BXw5 := BXw5_
  have IR := IR_
  have BXw6 := BXw6_
  have IC0 := IC0_
  have IC := IC_
  have BXw8 := BXw8_
  clear HB_ IP_ BXw3_ RD_ BXw4_ IQ_ BXw5_ IR_ BXw6_ IC0_ IC_ BXw8_
  obtain ⟨⟨c0, c1, c2, c3, c4, c5, c6, c7, c8, c9⟩, f0, f1, f2, f3, f4, f5, f6, f7, f8, f9⟩ := ten BXw8.out
  have hcvC := run_string_of (P := Tryz.prog) w11 w11.heap.size 24 9 5 z3.D z3.dn z3.dc [120] Tryz.underlying24 Tryz.underlying5 Tryz.underlying9 IC.out.d
  go_wp2_with fail
  clear c0 c1 c2 c3 c4 c5 c6 c7 c8 c9 f0 f1 f2 f3 f4 f5 f6 f7 f8 f9
  refine (known_any [119, 99] (by decide) w11).mono ?_
  rintro e w12 ⟨rfl, hb⟩
  (try dsimp only [hP0, hQ, hR, hC0, hC, hX, bornP])
  have hT : Below w11.heap.size w11 w12 := (Below.refl _ _).trans (hb.mono (by first | (simp; done) | (simp; omega)))
  have HB_ := hide (Below.trans HB.out (hT.mono HB.out.size))
  have IP_ := hide (in_on IP.out hT)
  have BXw3_ := hide (BXw3.out.below hT BXw3.out.lt)
  have RD_ := hide ((RD.out.below hT).more hT.size)
  have BXw4_ := hide (BXw4.out.below hT BXw4.out.lt)
  have IQ_ := hide (in_on IQ.out hT)
  have BXw5_ := hide (BXw5.out.below hT BXw5.out.lt)
  have IR_ := hide (in_on IR.out hT)
  have BXw6_ := hide (BXw6.out.below hT BXw6.out.lt)
  have IC0_ := hide (in_on IC0.out hT)
  have IC_ := hide (in_on IC.out hT)
  have BXw8_ := hide (BXw8.out.below hT BXw8.out.lt)
  clear hb hT HB IP BXw3 RD BXw4 IQ BXw5 IR BXw6 IC0 IC BXw8
  have HB := HB_
  have IP := IP_
  have BXw3 := BXw3_
  have RD := RD_
  have BXw4 := BXw4_
  have IQ := IQ_
  have BXw5 := BXw5_
  have IR := IR_
  have BXw6 := BXw6_
  have IC0 := IC0_
  have IC := IC_
  have BXw8 := BXw8_
  clear HB_ IP_ BXw3_ RD_ BXw4_ IQ_ BXw5_ IR_ BXw6_ IC0_ IC_ BXw8_
  rw [k_wc]
  go_wp2_with fail
  refine (known_any [] (by decide) w12).mono ?_
  rintro e w13 ⟨rfl, hb⟩
  (try dsimp only [hP0, hQ, hR, hC0, hC, hX, bornP])
  have hT : Below w12.heap.size w12 w13 := (Below.refl _ _).trans (hb.mono (by first | (simp; done) | (simp; omega)))
  have HB_ := hide (Below.trans HB.out (hT.mono HB.out.size))
  have IP_ := hide (in_on IP.out hT)
  have BXw3_ := hide (BXw3.out.below hT BXw3.out.lt)
  have RD_ := hide ((RD.out.below hT).more hT.size)
  have BXw4_ := hide (BXw4.out.below hT BXw4.out.lt)
  have IQ_ := hide (in_on IQ.out hT)
  have BXw5_ := hide (BXw5.out.below hT BXw5.out.lt)
  have IR_ := hide (in_on IR.out hT)
  have BXw6_ := hide (BXw6.out.below hT BXw6.out.lt)
  have IC0_ := hide (in_on IC0.out hT)
  have IC_ := hide (in_on IC.out hT)
  have BXw8_ := hide (BXw8.out.below hT BXw8.out.lt)
  clear hb hT HB IP BXw3 RD BXw4 IQ BXw5 IR BXw6 IC0 IC BXw8
  have HB := HB_
  have IP := IP_
  have BXw3 := BXw3_
  have RD := RD_
  have BXw4 := BXw4_
  have IQ := IQ_
  have BXw5 := BXw5_
  have IR := IR_
  have BXw6 := BXw6_
  have IC0 := IC0_
  have IC := IC_
  have BXw8 := BXw8_
  clear HB_ IP_ BXw3_ RD_ BXw4_ IQ_ BXw5_ IR_ BXw6_ IC0_ IC_ BXw8_
  rw [k_no]
  go_wp2_with fail
  refine (beginL [119, 104, 97, 116] [] [] none 0 none 0 w13 ⟨rfl, fun h => absurd h (by omega)⟩ ⟨rfl, fun h => absurd h (by omega)⟩ ⟨by omega, by omega⟩).mono ?_
  rintro e w14 ⟨s5, rfl, hI, hb⟩
  (try dsimp only [hP0, hQ, hR, hC0, hC, hX, bornP])
  have hT : Below w13.heap.size w13 w14 := (Below.refl _ _).trans (hb.mono (by first | (simp; done) | (simp; omega)))
  have HB_ := hide (Below.trans HB.out (hT.mono HB.out.size))
  have IP_ := hide (in_on IP.out hT)
  have BXw3_ := hide (BXw3.out.below hT BXw3.out.lt)
  have RD_ := hide ((RD.out.below hT).more hT.size)
  have BXw4_ := hide (BXw4.out.below hT BXw4.out.lt)
  have IQ_ := hide (in_on IQ.out hT)
  have BXw5_ := hide (BXw5.out.below hT BXw5.out.lt)
  have IR_ := hide (in_on IR.out hT)
  have BXw6_ := hide (BXw6.out.below hT BXw6.out.lt)
  have IC0_ := hide (in_on IC0.out hT)
  have IC_ := hide (in_on IC.out hT)
  have BXw8_ := hide (BXw8.out.below hT BXw8.out.lt)
  have IX := hide (hI)
  clear hb hT HB IP BXw3 RD BXw4 IQ BXw5 IR BXw6 IC0 IC BXw8
  have HB := HB_
  have IP := IP_
  have BXw3 := BXw3_
  have RD := RD_
  have BXw4 := BXw4_
  have IQ := IQ_
  have BXw5 := BXw5_
  have IR := IR_
  have BXw6 := BXw6_
  have IC0 := IC0_
  have IC := IC_
  have BXw8 := BXw8_
  clear HB_ IP_ BXw3_ RD_ BXw4_ IQ_ BXw5_ IR_ BXw6_ IC0_ IC_ BXw8_
  go_wp2_with fail
  refine (nextL n_X f_X (by decide) t_X s5 w14 w IX.out HS.out HB.out).mono ?_
  rintro e w15 ⟨D5, dn5, dc5, rfl, -, -, hb⟩
  (try dsimp only [hP0, hQ, hR, hC0, hC, hX, bornP])
  have hT : Below w14.heap.size w14 w15 := (Below.refl _ _).trans (hb.mono (by first | (simp; done) | (simp; omega)))
  have HB_ := hide (Below.trans HB.out (hT.mono HB.out.size))
  have IP_ := hide (in_on IP.out hT)
  have BXw3_ := hide (BXw3.out.below hT BXw3.out.lt)
  have RD_ := hide ((RD.out.below hT).more hT.size)
  have BXw4_ := hide (BXw4.out.below hT BXw4.out.lt)
  have IQ_ := hide (in_on IQ.out hT)
  have BXw5_ := hide (BXw5.out.below hT BXw5.out.lt)
  have IR_ := hide (in_on IR.out hT)
  have BXw6_ := hide (BXw6.out.below hT BXw6.out.lt)
  have IC0_ := hide (in_on IC0.out hT)
  have IC_ := hide (in_on IC.out hT)
  have BXw8_ := hide (BXw8.out.below hT BXw8.out.lt)
  have IX_ := hide (in_on IX.out hT)
  clear hb hT HB IP BXw3 RD BXw4 IQ BXw5 IR BXw6 IC0 IC BXw8 IX
  have HB := HB_
  have IP := IP_
  have BXw3 := BXw3_
  have RD := RD_
  have BXw4 := BXw4_
  have IQ := IQ_
  have BXw5 := BXw5_
  have IR := IR_
  have BXw6 := BXw6_
  have IC0 := IC0_
  have IC := IC_
  have BXw8 := BXw8_
  have IX := IX_
  clear HB_ IP_ BXw3_ RD_ BXw4_ IQ_ BXw5_ IR_ BXw6_ IC0_ IC_ BXw8_ IX_
  go_wp2_with fail
  go_ret
  exact ⟨rfl, HB.out⟩
end Go.Proofs.YtlkccboongnneaaGreatDoor
