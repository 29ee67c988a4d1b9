/- The law AuditCuts. -/
import Derived.Test.YtbbobffedgcbhaaDoorAuL
import Derived.Test.YtbbobffedgcbhaaDoorAuH
namespace Go.Proofs.YtbbobffedgcbhaaDoor
open Go.RowKit
set_option linter.unusedVariables false
theorem rsl_to (A : Option Addr) (n c q : Nat) (k : IntKind) (h : Int) (hh : h = (q : Int)) (hq : q ≤ c) (W : World) : (Instr.slice 22 (.slice A n c) none (some (.int k h)) none).run Tryd.prog W = .ok (.slice A q c) W := by
  subst hh
  have hE : Tryd.prog.elem 22 = 39 := by simp [Program.elem, Tryd.underlying22]
  rw [run_slice_h W 22 A n c (slice_ht Tryd.underlying22) k (q : Int) (by omega) (by omega), hE, run_sizeOf_n sizeRec W]
  simp only [Result.andThen, sliced, Int.toNat_natCast, Nat.zero_mul, Nat.sub_zero]
  cases A with
  | none => simp
  | some a =>
    obtain ⟨b, o, s⟩ := a
    by_cases h0 : c = 0
    · rw [if_pos h0]
    · rw [if_neg h0]
      first | rfl | simp [Addr.add]
theorem RVok.set1 {w : World} {x : RV} (h : RVok w x) {p : Addr} {v0 : Value} (hp : w.cell? p = some v0) (hv : ∀ z, v0 ≠ .int .u8 z) (u : Value) : RVok (w.setCell p u) x := ⟨(Reads.set1 h.1 hp hv u).more (by simp), h.2⟩
theorem OutR.set1 {B : Nat} {w : World} {A : Option Addr} {n c : Nat} {l : List RV} (h : OutR B w A n c l) {p : Addr} (hB : p.block < B) {v0 : Value} (hp : w.cell? p = some v0) (hv : ∀ z, v0 ≠ .int .u8 z) (u : Value) : OutR B (w.setCell p u) A n c l :=
  ⟨own_far h.1 hB u, fun x hx => (h.2.1 x hx).set1 hp hv u, h.2.2⟩
theorem open_b (bs T Dg : LB) (P : List Rec) (E k : Nat) (hE : (scanB bs).2.2 = E) (hDg : (scanB bs).2.1 = Dg) (hP : (scanB bs).1 = P) (hk : P.length = k) (hT : bs.take E = T) (A : Option Addr) (n c : Nat) (W : World) (hR : Rd W A n bs) (hnc : n ≤ c) (hn : n ≤ 4000) (hS : Std W) (hT2 : Tabs W) :
    Calls Tryd.prog 8 #[.agg #[.slice A n c, .slice none 0 0, .int .i64 ((n : Int) + 1000), .bool false, .int .i64 (-1)]] W fun e w' => ∃ A2 c2 B2 k2 H2 hc2 O co l, e = .returned (.tuple #[.agg #[.slice A2 E c2, .slice B2 0 k2, .int .i64 ((n : Int) + 1000), .bool false, .int .i64 (-1), .int .i64 (k : Int), .slice H2 32 hc2, .bool false], .slice O k co, .int .i64 0]) ∧ LogIn w' ⟨T, [], (n : Int) + 1000, false, -1, (k : Int), Dg, false⟩ A2 E c2 B2 0 k2 H2 32 hc2 ∧ OutR W.heap.size w' O k co l ∧ l.map RV.r = P ∧ Below W.heap.size W w' := by
  have hl := hR.len
  have hEn := scanB_end bs
  refine (aopen_ok bs [] ((n : Int) + 1000) (-1) A n c none 0 0 W hR hnc Reads.none_ (Nat.le_refl _) rfl (by omega) (by unfold Dk.okD; rw [decide_eq_true_eq]; omega) hS hT2).mono ?_
  rintro e w' ⟨A2, n2, c2, B2, m2, k2, H2, hc2, O, co, l, rfl, g1, g2, g3, g4⟩
  unfold opP at g1 ⊢
  rw [hE] at hEn
  rw [hE, hT, hDg, hP, hk] at g1 ⊢
  try dsimp only at g1 ⊢
  rw [hP] at g3
  have hll : l.length = k := by rw [← hk, ← g3, List.length_map]
  rw [hll] at g2 ⊢
  have hn2 : n2 = E := by have := g1.rs.len; dsimp only at this; rw [← this, ← hT, List.length_take]; omega
  have hm2 : m2 = 0 := by have := g1.rp.len; simpa using this.symm
  subst hn2 hm2
  exact ⟨A2, c2, B2, k2, H2, hc2, O, co, l, rfl, g1, g2, g3, g4⟩
theorem write_b (T Dg ent dg : LB) (E k n : Nat) (r R : Rec) (hR : { r with seq := (k : Int) } = R) (hent : entP Dg R = ent) (hdg : digP Dg (encP R) = dg) (hE : T.length = E) (hEn : E ≤ n) (hn : n ≤ 4000) (hk : k ≤ 4000) (hV : validP R = true) (hok : okL ⟨T, [], (n : Int) + 1000, false, -1, (k : Int), Dg, false⟩ = true) (A2 B2 H2 RA : Option Addr) (c2 k2 hc2 rn rc : Nat) (W : World) (hI : LogIn W ⟨T, [], (n : Int) + 1000, false, -1, (k : Int), Dg, false⟩ A2 E c2 B2 0 k2 H2 32 hc2) (hD : Rd W RA rn r.dig) (hS : Std W) (hT2 : Tabs W) :
    Calls Tryd.prog 10 #[.agg #[Value.slice A2 E c2, .slice B2 0 k2, .int .i64 ((n : Int) + 1000), .bool false, .int .i64 (-1), .int .i64 (k : Int), .slice H2 32 hc2, .bool false], Rec.v r RA rn rc] W fun e w' => ∃ A3 n3 c3 B3 k3 H3 hc3, e = .returned (.tuple #[.agg #[Value.slice A3 n3 c3, .slice B3 0 k3, .int .i64 ((n : Int) + 1000), .bool false, .int .i64 (-1), .int .i64 ((k : Int) + 1), .slice H3 32 hc3, .bool false], .int .i64 0]) ∧ LogIn w' ⟨T ++ ent, [], (n : Int) + 1000, false, -1, (k : Int) + 1, dg, false⟩ A3 n3 c3 B3 0 k3 H3 32 hc3 ∧ Below W.heap.size W w' := by
  have hel : ent.length ≤ 594 := by
    have h1 := ent_length Dg R
    have h2 := enc_small hV
    rw [hent] at h1
    omega
  have e0 : Dk.okD E 0 ((n : Int) + 1000) (-1) = true := by unfold Dk.okD; rw [decide_eq_true_eq]; omega
  have e0' : Dk.okD E ent.length ((n : Int) + 1000) (-1) = true := by unfold Dk.okD; rw [decide_eq_true_eq]; omega
  have e1 : Dk.apE E 0 ((n : Int) + 1000) false (-1) ent.length = 0 := by
    unfold Dk.apE
    rw [e0, show Dk.pwO false (-1) = true from rfl, if_neg (by simp), if_neg (by simp), if_neg (by omega)]
  have e2 : Dk.apP E 0 [] ((n : Int) + 1000) false (-1) ent = ent := by unfold Dk.apP; rw [e1]; rfl
  have e3 : Dk.apD E 0 ((n : Int) + 1000) false (-1) = false := by unfold Dk.apD; rw [e0]; rfl
  have e4 : Dk.apA E 0 ((n : Int) + 1000) false (-1) = -1 := by unfold Dk.apA; rw [e0]; rfl
  have e5 : Dk.apD E ent.length ((n : Int) + 1000) false (-1) = false := by unfold Dk.apD; rw [e0']; rfl
  have e6 : Dk.apA E ent.length ((n : Int) + 1000) false (-1) = -1 := by unfold Dk.apA; rw [e0']; rfl
  have e7 : Dk.syE E ent.length ((n : Int) + 1000) false (-1) = 0 := by unfold Dk.syE; rw [e0']; rfl
  have h := awrite_ok T [] Dg ((n : Int) + 1000) (-1) false false k r A2 E c2 B2 0 k2 H2 hc2 RA rn rc W hI hok rfl (by rw [hR]; exact hV) hD (by omega) (by omega) (by rw [hR, hent, hE]; exact e1) (by rw [hR, hent, hE, List.length_nil, e2, e3, e4]; exact e7) hS hT2
  rw [hR, hent, hdg, hE, List.length_nil, e2, e3, e4, e5, e6] at h
  refine h.mono ?_
  rintro e w' ⟨A3, n3, c3, B3, m3, k3, H3, hc3, rfl, g1, g2, g3, g4, g5, g6, g7⟩
  have hm3 : m3 = 0 := by have := g3.len; simpa using this.symm
  subst hm3
  have hn3 : n3 ≤ 9000 := by have := g1.len; rw [List.length_append] at this; omega
  exact ⟨A3, n3, c3, B3, k3, H3, hc3, rfl, ⟨g1, g2, g3, g4, g5, g6, hn3, by omega, by omega⟩, g7⟩
theorem recs_b (l1 : List Rec) (L : Lg) (k : Nat) (hs : (scanB L.s).1 = l1) (hk : l1.length = k) (hok : okL L = true) (A : Option Addr) (n c : Nat) (B : Option Addr) (m q : Nat) (H : Option Addr) (hn hc : Nat) (W : World) (hI : LogIn W L A n c B m q H hn hc) (hS : Std W) (hT : Tabs W) :
    Calls Tryd.prog 13 #[lv L A n c B m q H hn hc] W fun e w' => ∃ O co l, e = .returned (.slice O k co) ∧ OutR W.heap.size w' O k co l ∧ l.map RV.r = l1 ∧ Below W.heap.size W w' := by
  refine (arecords_any L A n c B m q H hn hc W hI hS hT hok).mono ?_
  rintro e w' ⟨O, co, l, rfl, g2, g3, g4⟩
  rw [hs] at g3
  have hl : l.length = k := by rw [← hk, ← g3, List.length_map]
  rw [hl] at g2 ⊢
  exact ⟨O, co, l, rfl, g2, g3, g4⟩
set_option maxRecDepth 100000 in
set_option maxHeartbeats 16000000 in
theorem cuts_law (bs : LB) (r : Rec) (A RA : Option Addr) (n c rn rc : Nat) (s0 s1 s2 : Addr) (w : World) (hR : Rd w A n bs) (hnc : n ≤ c) (hD : Rd w RA rn r.dig) (hdc : rn ≤ rc) (hS : Std w) (hT : Tabs w) (hE : Sent s0 s1 s2 w) :
    Calls Tryd.prog 4 #[.slice A n c, Rec.v r RA rn rc] w fun e w' => e = .returned (.bool true) ∧ Below w.heap.size w w' := by
  obtain ⟨q, op, p, p2, g, al⟩ := r
  have hb := bl_alloc w (.cells #[.int .i64 q, .int .i64 op, .string ⟨p.toArray⟩, .string ⟨p2.toArray⟩, .slice RA rn rc, .bool al] 39)
  have hk := Blk.new w 39 #[.int .i64 q, .int .i64 op, .string ⟨p.toArray⟩, .string ⟨p2.toArray⟩, .slice RA rn rc, .bool al]
  have XHD := hide (fun W (hW : Below w.heap.size w W) => heads_any s0 s1 s2 W (hS.below hW) (hT.below hW) (hE.below hW))
  have HR := hide hR
  have HD := hide hD
  have HS := hide hS
  have HT := hide hT
  have XC := hide (rcheck_any ⟨q, op, p, p2, g, al⟩ RA rn rc hD.len (w.alloc (.cells #[.int .i64 q, .int .i64 op, .string ⟨p.toArray⟩, .string ⟨p2.toArray⟩, .slice RA rn rc, .bool al] 39)))
  have HB := hide hb
  have HN0 : Hid (bs.length = n) := hide hR.len
  clear hb hS hT hR hD hE
  obtain ⟨W0, hW0⟩ : ∃ W0, w.alloc (.cells #[.int .i64 q, .int .i64 op, .string ⟨p.toArray⟩, .string ⟨p2.toArray⟩, .slice RA rn rc, .bool al] 39) = W0 := ⟨_, rfl⟩
  unfold Rec.v at *
  dsimp only at *
  rw [hW0] at XC HB hk
  obtain ⟨z0, z1, z2, z3, z4, z5⟩ := hk.six
  have hzl := hk.lt
  have HK := hide hk
  clear hk
  by_cases k1 : (4000 : Int) < (n : Int)
  · clear XC HR HD
    go_enter Tryd.func4, Tryd.ntmps4
    go_wp2_with fail
    refine (XHD.out _ HB.out).mono ?_
    rintro e1 w9 ⟨rfl, hb9⟩
    have HB9 := hide (below_more HB.out (Nat.le_refl _) hb9)
    clear hb9 XHD
    go_wp2_with fail
    go_ret
    exact ⟨rfl, HB9.out⟩
  have hn4 : n ≤ 4000 := by omega
  cases hv : validP ⟨q, op, p, p2, g, al⟩ with
  | false =>
    rw [hv] at XC
    clear hv
    go_enter Tryd.func4, Tryd.ntmps4
    go_wp2_with fail
    refine XC.out.mono ?_
    rintro e0 w1 ⟨rfl, hb1⟩
    have HB1 := hide (below_more HB.out (Nat.le_refl _) hb1)
    clear hb1 XC HK z0 z1 z2 z3 z4 z5 hzl
    go_wp2_with fail
    refine (XHD.out _ HB1.out).mono ?_
    rintro e1 w9 ⟨rfl, hb9⟩
    have HB9 := hide (below_more HB1.out (Nat.le_refl _) hb9)
    clear hb9 XHD
    go_wp2_with fail
    go_ret
    exact ⟨rfl, HB9.out⟩
  | true =>
    rw [hv] at XC
    have HV := hide hv
    clear hv
    have v0 : IntKind.i64.wrap ((n : Int) + 1000) = (n : Int) + 1000 := by simp [IntKind.wrap, IntKind.bits, IntKind.signed]; omega
    go_enter Tryd.func4, Tryd.ntmps4
    go_wp2_with fail
    refine XC.out.mono ?_
    rintro e0 w1 ⟨rfl, hb1⟩
    have HB1 := hide (below_more HB.out (Nat.le_refl _) hb1)
    have HK1 := hide (HK.out.below hb1 HK.out.lt)
    have hlow1 : w.heap.size < w1.heap.size := HK1.out.lt
    obtain ⟨E, hE⟩ : ∃ E, (scanB bs).2.2 = E := ⟨_, rfl⟩
    obtain ⟨Dg, hDg⟩ : ∃ D, (scanB bs).2.1 = D := ⟨_, rfl⟩
    obtain ⟨P, hP⟩ : ∃ P, (scanB bs).1 = P := ⟨_, rfl⟩
    obtain ⟨k, hk⟩ : ∃ k, P.length = k := ⟨_, rfl⟩
    obtain ⟨T, hT⟩ : ∃ T, bs.take E = T := ⟨_, rfl⟩
    have hEn := scanB_end bs
    have hfew := scanB_few bs
    have hag := scanB_again bs
    have hoo := opP_ok bs (room := (n : Int) + 1000) (arm := -1) (by rw [HN0.out]; omega) (by omega) (by omega)
    unfold opP at hoo
    rw [hE, hT, hDg, hP, hk] at hoo
    rw [hE, hT] at hag
    rw [hE, HN0.out] at hEn
    rw [hE, hP, hk] at hfew
    have hTl : T.length = E := by rw [← hT, List.length_take, HN0.out]; omega
    have hvk := valid_seq HV.out (k := k) (by omega)
    dsimp only at hvk
    obtain ⟨R, hRR⟩ : ∃ R : Rec, (⟨(k : Int), op, p, p2, g, al⟩ : Rec) = R := ⟨_, rfl⟩
    obtain ⟨ent, hent⟩ : ∃ x, entP Dg R = x := ⟨_, rfl⟩
    obtain ⟨dg, hdg⟩ : ∃ x, digP Dg (encP R) = x := ⟨_, rfl⟩
    rw [hRR] at hvk
    have hel : ent.length ≤ 594 := by
      have h1 := ent_length Dg R
      have h2 := enc_small hvk
      rw [hent] at h1
      omega
    have ha1 : (scanB T).2.1 = Dg := by rw [hag, hDg]
    have ha2 : (scanB T).2.2 = T.length := by rw [hag, hE, hTl]
    have ha3 : (scanB T).1.length = k := by rw [hag, hP, hk]
    have hRq : R.seq = (k : Int) := by rw [← hRR]
    have hsn := scan_next ha1 ha2 hvk (by rw [hRq, ha3])
    have hon := okL_next (room := (n : Int) + 1000) (arm := -1) ha1 ha2 ha3 hvk hRq (by omega) (by omega) (by rw [hent, hTl]; omega) (by omega)
    rw [hent, hdg] at hon
    rw [hent, hag, hP] at hsn
    have XO := hide (open_b bs T Dg P E k hE hDg hP hk hT A n c _ (rb HR.out (HB1.out.alloc HB1.out.size (.cells #[.slice A n c, .slice none 0 0, .int .i64 ((n : Int) + 1000), .bool false, .int .i64 (-1)] 27))) hnc hn4 (HS.out.below (HB1.out.alloc HB1.out.size _)) (HT.out.below (HB1.out.alloc HB1.out.size _)))
    have XW := hide (fun A2 B2 H2 c2 k2 hc2 W h1 h2 h3 h4 => write_b T Dg ent dg E k n ⟨q, op, p, p2, g, al⟩ R hRR hent hdg hTl hEn hn4 (by omega) hvk hoo A2 B2 H2 RA c2 k2 hc2 rn rc W h1 h2 h3 h4)
    have XQ := hide (fun A3 n3 c3 B3 k3 H3 hc3 W h1 h2 h3 => recs_b (P ++ [R]) ⟨T ++ ent, [], (n : Int) + 1000, false, -1, (k : Int) + 1, dg, false⟩ (k + 1) (by dsimp only; rw [hsn]) (by rw [List.length_append, hk]; rfl) hon A3 n3 c3 B3 0 k3 H3 32 hc3 W h1 h2 h3)
    have XK := hide (fun A2 c2 B2 k2 H2 hc2 W h1 h2 h3 => acheck_any ⟨T, [], (n : Int) + 1000, false, -1, (k : Int), Dg, false⟩ A2 E c2 B2 0 k2 H2 32 hc2 W h1 h2 h3)
    rw [hoo] at XK
    have HRT : Hid (∀ W, Below w.heap.size w W → Rd W A E T) := hide (fun W hW => by rw [← hT]; exact rd_to (rb HR.out hW) hEn)
    have hBO := hide (HB1.out.alloc HB1.out.size (.cells #[.slice A n c, .slice none 0 0, .int .i64 ((n : Int) + 1000), .bool false, .int .i64 (-1)] 27))
    have hk4 : k ≤ 4000 := by omega
    have HRR := hide hRR
    have HPK := hide hk
    unfold Rec.v at XW
    dsimp only at XW XQ XK
    clear hE hDg hP hT hfew hag hoo hent hdg hvk ha1 ha2 ha3 hRq hsn hon hTl hel hRR hk HV XC HK z0 z1 z2 z3 z4 z5 hzl hW0 hb1
    go_wp2_with fail
    refine XO.out.mono ?_
    rintro e1 w2 ⟨A2, c2, B2, k2, H2, hc2, O, co, l, rfl, g1, g2, g3, g4⟩
    have HB2 := hide (below_more hBO.out (Nat.le_refl _) g4)
    have hK2' := (HK1.out.below (bl_alloc w1 (.cells #[.slice A n c, .slice none 0 0, .int .i64 ((n : Int) + 1000), .bool false, .int .i64 (-1)] 27)) HK1.out.lt).below g4 (by simp; omega)
    have hK2 := hide hK2'
    have hLB := bl_alloc w2 (.cells #[.slice A2 E c2, .slice B2 0 k2, .int .i64 ((n : Int) + 1000), .bool false, .int .i64 (-1), .int .i64 (k : Int), .slice H2 32 hc2, .bool false] 31)
    have hBB := HB2.out.alloc HB2.out.size (.cells #[.slice A2 E c2, .slice B2 0 k2, .int .i64 ((n : Int) + 1000), .bool false, .int .i64 (-1), .int .i64 (k : Int), .slice H2 32 hc2, .bool false] 31)
    have hKB := Blk.new w2 31 #[.slice A2 E c2, .slice B2 0 k2, .int .i64 ((n : Int) + 1000), .bool false, .int .i64 (-1), .int .i64 (k : Int), .slice H2 32 hc2, .bool false]
    have HI := hide (g1.below hLB)
    have HLM := hide g3
    have HO := hide ((g2.more (C := w1.heap.size) (by simp)).below hLB)
    have HKR := hide (hK2'.below hLB hK2'.lt)
    obtain ⟨WB, hWB⟩ : ∃ W, w2.alloc (.cells #[.slice A2 E c2, .slice B2 0 k2, .int .i64 ((n : Int) + 1000), .bool false, .int .i64 (-1), .int .i64 (k : Int), .slice H2 32 hc2, .bool false] 31) = W := ⟨_, rfl⟩
    rw [hWB] at HI HO HKR hBB hKB
    have HBB := hide hBB
    have HKB := hide hKB
    have HWB := hide hWB
    have XK5 := hide (fun W (hW : Below WB.heap.size WB W) => XK.out A2 c2 B2 k2 H2 hc2 W (HI.out.below hW) (HS.out.below (below_more HBB.out (Nat.le_refl _) hW)) (HT.out.below (below_more HBB.out (Nat.le_refl _) hW)))
    have allS : Hid (∀ V, Below WB.heap.size WB V → (V.cell? ⟨w2.heap.size, 0, none⟩ = some (.slice A2 E c2) ∧ V.cell? ⟨w2.heap.size, 1, none⟩ = some (.slice B2 0 k2) ∧ V.cell? ⟨w2.heap.size, 2, none⟩ = some (.int .i64 ((n : Int) + 1000)) ∧ V.cell? ⟨w2.heap.size, 3, none⟩ = some (.bool false) ∧ V.cell? ⟨w2.heap.size, 4, none⟩ = some (.int .i64 (-1)) ∧ V.cell? ⟨w2.heap.size, 5, none⟩ = some (.int .i64 (k : Int)) ∧ V.cell? ⟨w2.heap.size, 6, none⟩ = some (.slice H2 32 hc2) ∧ V.cell? ⟨w2.heap.size, 7, none⟩ = some (.bool false)) ∧ ((convert 25 9 (.slice A2 E c2)).run Tryd.prog V = .ok (.string ⟨T.toArray⟩) V) ∧ ((convert 25 9 (.slice A E c)).run Tryd.prog V = .ok (.string ⟨T.toArray⟩) V)) := hide (fun V hV => ⟨(HKB.out.below hV HKB.out.lt).eight, conv_str (rb HI.out.rs hV), conv_str (HRT.out V (below_more HBB.out (Nat.le_refl _) hV))⟩)
    have s5 := fun W => sl_to A n c E .i64 (E : Int) rfl (by omega) W
    have hlt5 : decide ((n : Int) < (E : Int)) = false := decide_eq_false (by omega)
    have hlt6 : decide (n < E) = false := decide_eq_false (by omega)
    have kW := hide (Below.refl WB.heap.size WB)
    obtain ⟨⟨y0, y1, y2, y3, y4, y5, y6, y7⟩, yc, yd⟩ := allS.out _ kW.out
    clear g1 g2 g3 g4 hK2' hLB hBB hKB XO XK hWB
    go_upto_region 5 with (fail)
    go_cut [68] (fun u68 wx => u68 = .bool false ∧ Hid (Below WB.heap.size WB wx))
    case first =>
      rw [HWB.out]
      go_region_held3 (fun V => (V.cell? ⟨w2.heap.size, 0, none⟩ = some (.slice A2 E c2) ∧ V.cell? ⟨w2.heap.size, 1, none⟩ = some (.slice B2 0 k2) ∧ V.cell? ⟨w2.heap.size, 2, none⟩ = some (.int .i64 ((n : Int) + 1000)) ∧ V.cell? ⟨w2.heap.size, 3, none⟩ = some (.bool false) ∧ V.cell? ⟨w2.heap.size, 4, none⟩ = some (.int .i64 (-1)) ∧ V.cell? ⟨w2.heap.size, 5, none⟩ = some (.int .i64 (k : Int)) ∧ V.cell? ⟨w2.heap.size, 6, none⟩ = some (.slice H2 32 hc2) ∧ V.cell? ⟨w2.heap.size, 7, none⟩ = some (.bool false)) ∧ ((convert 25 9 (.slice A2 E c2)).run Tryd.prog V = .ok (.string ⟨T.toArray⟩) V) ∧ ((convert 25 9 (.slice A E c)).run Tryd.prog V = .ok (.string ⟨T.toArray⟩) V))
      (first | with_reducible exact allS.out _ (Below.drew kW.out) | with_reducible exact allS.out _ kW.out)
      (first
      | (go_at_call 11; with_reducible refine (XK5.out _ (Below.drew kW.out)).mono ?_
         rintro e wx ⟨rfl, kx⟩
         have kX := hide (below_more (Below.drew kW.out) (Nat.le_refl _) kx)
         clear kW
         have kW := hide kX.out
         clear kx kX)
      | (go_at_call 11; with_reducible refine (XK5.out _ kW.out).mono ?_
         rintro e wx ⟨rfl, kx⟩
         have kX := hide (below_more kW.out (Nat.le_refl _) kx)
         clear kW
         have kW := hide kX.out
         clear kx kX))
      all_goals
        go_wp2_with fail
        go_meet
        first | exact ⟨rfl, hide kW.out⟩ | exact ⟨rfl, hide (below_drewN kW.out _)⟩ | exact ⟨rfl, hide (Below.drew kW.out)⟩
    case rest =>
      obtain ⟨rfl, HWC⟩ := hcut
      clear allS y0 y1 y2 y3 y4 y5 y6 y7 yc yd kW XK5 s5 hlt5 hlt6 HRT
      have hBC := below_more HBB.out (Nat.le_refl _) HWC.out
      have hKL := HKB.out.below HWC.out HKB.out.lt
      have HKRc := hide (HKR.out.below HWC.out HKR.out.lt)
      have XW1 := hide (XW.out A2 B2 H2 c2 k2 hc2 wc (HI.out.below HWC.out) (rb HD.out hBC) (HS.out.below hBC) (HT.out.below hBC))
      have HOc := hide (HO.out.below HWC.out)
      have HBC := hide hBC
      obtain ⟨y0, y1, y2, y3, y4, y5, y6, y7⟩ := hKL.eight
      have yl := hKL.lt
      obtain ⟨z0, z1, z2, z3, z4, z5⟩ := HKRc.out.six
      have zl := HKRc.out.lt
      clear hKL hBC XW HI HO HKB HKR HWC HBB HWB hK2 HK1
      go_wp2_with fail
      refine XW1.out.mono ?_
      rintro e3 w4 ⟨A3, n3, c3, B3, k3, H3, hc3, rfl, g1, g2⟩
      have hal := bl_alloc w4 (.cells #[Value.slice A3 n3 c3, .slice B3 0 k3, .int .i64 ((n : Int) + 1000), .bool false, .int .i64 (-1), .int .i64 ((k : Int) + 1), .slice H3 32 hc3, .bool false] 31)
      have hb4 := below_more HBC.out (Nat.le_refl _) (below_more g2 (Nat.le_refl _) hal)
      have HKR4 := hide ((HKRc.out.below g2 HKRc.out.lt).below hal (HKRc.out.below g2 HKRc.out.lt).lt)
      have HO4 := hide ((HOc.out.below g2).below hal)
      have XQ1 := hide (XQ.out A3 n3 c3 B3 k3 H3 hc3 _ (g1.below hal) (HS.out.below hb4) (HT.out.below hb4))
      have HB4 := hide hb4
      clear g1 g2 hal hb4 XW1 XQ HKRc HOc HBC y0 y1 y2 y3 y4 y5 y6 y7 yl z0 z1 z2 z3 z4 z5 zl
      go_wp2_with fail
      refine XQ1.out.mono ?_
      rintro e4 w5 ⟨M, mo, lm, rfl, h1, h2, h3⟩
      have hK5 := HKR4.out.below h3 HKR4.out.lt
      have hB5 := below_more HB4.out (Nat.le_refl _) h3
      have hD5 := rb HD.out hB5
      have c0 := hK5.cell 0
      simp at c0
      have cu8 : ∀ z, (Value.int .i64 q) ≠ .int .u8 z := fun z => by simp
      have hlow4 : w.heap.size < (w4.alloc (.cells #[Value.slice A3 n3 c3, .slice B3 0 k3, .int .i64 ((n : Int) + 1000), .bool false, .int .i64 (-1), .int .i64 ((k : Int) + 1), .slice H3 32 hc3, .bool false] 31)).heap.size := HKR4.out.lt
      obtain ⟨w6, hw6⟩ : ∃ W, w5.setCell ⟨w.heap.size, 0, none⟩ (.int .i64 (k : Int)) = W := ⟨_, rfl⟩
      have HK6 : Hid (Blk w6 w.heap.size 39 #[.int .i64 (k : Int), .int .i64 op, .string ⟨p.toArray⟩, .string ⟨p2.toArray⟩, .slice RA rn rc, .bool al]) := hide (by rw [← hw6]; exact hK5.set_ 0 _)
      have HO6 : Hid (OutR w1.heap.size w6 O k co l) := hide (by rw [← hw6]; exact (HO4.out.below h3).set1 (by exact hlow1) c0 cu8 _)
      have HM6 : Hid (OutR (w4.alloc (.cells #[Value.slice A3 n3 c3, .slice B3 0 k3, .int .i64 ((n : Int) + 1000), .bool false, .int .i64 (-1), .int .i64 ((k : Int) + 1), .slice H3 32 hc3, .bool false] 31)).heap.size w6 M (k + 1) mo lm) := hide (by rw [← hw6]; exact h1.set1 (by exact hlow4) c0 cu8 _)
      have HD6 : Hid (Rd w6 RA rn g) := hide (by rw [← hw6]; exact (Reads.set1 hD5 c0 cu8 _).more (by simp))
      have HB6 : Hid (Below w.heap.size w w6) := hide (by rw [← hw6]; exact hB5.setCell (Nat.le_refl _) _)
      have c1 := hK5.frozen 0
      have c2' := hK5.lt
      have hlm : lm.length = k + 1 := by rw [← List.length_map (f := RV.r), h2, List.length_append, HPK.out]; rfl
      have hxk : lm[k]? = some (lm[k]'(by omega)) := List.getElem?_eq_getElem _
      have hxr : (lm[k]'(by omega)).r = R := by
        have h := congrArg (·[k]?) h2
        simp only [List.getElem?_map, hxk, Option.map_some] at h
        rw [List.getElem?_append_right (by rw [HPK.out]; exact Nat.le_refl _), HPK.out, Nat.sub_self] at h
        simpa using h
      obtain ⟨x, hxe⟩ : ∃ x, lm[k]'(by omega) = x := ⟨_, rfl⟩
      rw [hxe] at hxk hxr
      clear hxe
      have kx := hide (HM6.out.2.1 x (List.mem_of_getElem? hxk))
      have HTK : Hid ((lm.take k).map RV.r = l.map RV.r) := hide (by rw [List.map_take, h2, HLM.out, List.take_left' HPK.out])
      obtain ⟨gm, om, rfl, hgm, a0, a1, a2, a3, a4, a5⟩ := rec_cells HM6.out.row.1 hxk
      obtain ⟨rx, XA, xn, xc⟩ := x
      dsimp only at *
      obtain rfl := hxr
      have YR := hide (fun W (hW : Below w6.heap.size w6 W) => rows_same (some ⟨gm, om, none⟩) O k mo co (lm.take k) l W ((HM6.out.row.below hW).take (Nat.le_succ k)) (HO6.out.row.below hW) HTK.out (by omega))
      have YS := hide (fun W (hW : Below w6.heap.size w6 W) => rsame_any rx rx XA RA xn xc rn rc W (rb kx.out.1 hW) (by rw [← HRR.out]; exact rb HD6.out hW))
      rw [show sameP rx rx = true from (same_iff _ _).2 rfl] at YS
      have hrr := HRR.out
      subst hrr
      unfold Rec.v at YS
      dsimp only at YS a0 a1 a2 a3 a4 a5
      have YH := hide (fun W (hW : Below w6.heap.size w6 W) => XHD.out W (below_more HB6.out (Nat.le_refl _) hW))
      have allS : Hid (∀ V, Below w6.heap.size w6 V → (V.cell? ⟨gm, om + k * 6, none⟩ = some (.int .i64 (k : Int)) ∧ V.cell? ⟨gm, om + k * 6 + 1, none⟩ = some (.int .i64 op) ∧ V.cell? ⟨gm, om + k * 6 + 2, none⟩ = some (.string ⟨p.toArray⟩) ∧ V.cell? ⟨gm, om + k * 6 + 3, none⟩ = some (.string ⟨p2.toArray⟩) ∧ V.cell? ⟨gm, om + k * 6 + 4, none⟩ = some (.slice XA xn xc) ∧ V.cell? ⟨gm, om + k * 6 + 5, none⟩ = some (.bool al)) ∧ (V.cell? ⟨w.heap.size, 0, none⟩ = some (.int .i64 (k : Int)) ∧ V.cell? ⟨w.heap.size, 1, none⟩ = some (.int .i64 op) ∧ V.cell? ⟨w.heap.size, 2, none⟩ = some (.string ⟨p.toArray⟩) ∧ V.cell? ⟨w.heap.size, 3, none⟩ = some (.string ⟨p2.toArray⟩) ∧ V.cell? ⟨w.heap.size, 4, none⟩ = some (.slice RA rn rc) ∧ V.cell? ⟨w.heap.size, 5, none⟩ = some (.bool al))) := hide (fun V hV => by
        obtain ⟨x0, x1, x2, x3, x4, x5⟩ := (HK6.out.below hV HK6.out.lt).six
        exact ⟨⟨(hV.cell (p := ⟨gm, om + k * 6, none⟩) hgm).trans a0, (hV.cell (p := ⟨gm, om + k * 6 + 1, none⟩) hgm).trans a1, (hV.cell (p := ⟨gm, om + k * 6 + 2, none⟩) hgm).trans a2, (hV.cell (p := ⟨gm, om + k * 6 + 3, none⟩) hgm).trans a3, (hV.cell (p := ⟨gm, om + k * 6 + 4, none⟩) hgm).trans a4, (hV.cell (p := ⟨gm, om + k * 6 + 5, none⟩) hgm).trans a5⟩, ⟨x0, x1, x2, x3, x4, x5⟩⟩)
      have hmo' : k + 1 ≤ mo := HM6.out.le
      have hmo : k ≤ mo := by omega
      have s2 := fun W => rsl_to (some ⟨gm, om, none⟩) (k + 1) mo k .i64 (k : Int) rfl hmo W
      have s3 := fun W => rec_at gm om (k + 1) mo k (k : Int) rfl (Nat.lt_succ_self k) W
      have v1 : IntKind.i64.wrap ((k : Int) + 1) = (k : Int) + 1 := by simp [IntKind.wrap, IntKind.bits, IntKind.signed]; omega
      have hkk : decide ((k : Int) < (k : Int) + 1) = true := decide_eq_true (by omega)
      have kW := hide (Below.refl w6.heap.size w6)
      obtain ⟨⟨a0', a1', a2', a3', a4', a5'⟩, ⟨x0, x1, x2, x3, x4, x5⟩⟩ := allS.out _ kW.out
      clear a0 a1 a2 a3 a4 a5 h1 h2 h3 hxk kx HTK HO6 HM6 HK6 HD6 HKR4 HO4 HB4 hK5 hB5 hD5 XQ1 hlm HLM hgm cu8 hlow4 XHD
      go_wp2_with fail
      go_region_held3 (fun V => (V.cell? ⟨gm, om + k * 6, none⟩ = some (.int .i64 (k : Int)) ∧ V.cell? ⟨gm, om + k * 6 + 1, none⟩ = some (.int .i64 op) ∧ V.cell? ⟨gm, om + k * 6 + 2, none⟩ = some (.string ⟨p.toArray⟩) ∧ V.cell? ⟨gm, om + k * 6 + 3, none⟩ = some (.string ⟨p2.toArray⟩) ∧ V.cell? ⟨gm, om + k * 6 + 4, none⟩ = some (.slice XA xn xc) ∧ V.cell? ⟨gm, om + k * 6 + 5, none⟩ = some (.bool al)) ∧ (V.cell? ⟨w.heap.size, 0, none⟩ = some (.int .i64 (k : Int)) ∧ V.cell? ⟨w.heap.size, 1, none⟩ = some (.int .i64 op) ∧ V.cell? ⟨w.heap.size, 2, none⟩ = some (.string ⟨p.toArray⟩) ∧ V.cell? ⟨w.heap.size, 3, none⟩ = some (.string ⟨p2.toArray⟩) ∧ V.cell? ⟨w.heap.size, 4, none⟩ = some (.slice RA rn rc) ∧ V.cell? ⟨w.heap.size, 5, none⟩ = some (.bool al)))
      (first | with_reducible exact allS.out _ (Below.drew kW.out) | with_reducible exact allS.out _ kW.out)
      (first
      | (go_at_call 12; with_reducible refine (YR.out _ (Below.drew kW.out)).mono ?_
         rintro e wx ⟨rfl, kx⟩
         have kX := hide (below_more (Below.drew kW.out) (Nat.le_refl _) kx)
         clear kW
         have kW := hide kX.out
         clear kx kX)
      | (go_at_call 12; with_reducible refine (YR.out _ kW.out).mono ?_
         rintro e wx ⟨rfl, kx⟩
         have kX := hide (below_more kW.out (Nat.le_refl _) kx)
         clear kW
         have kW := hide kX.out
         clear kx kX)
      | (go_at_call 15; with_reducible refine (YS.out _ (Below.drew kW.out)).mono ?_
         rintro e wx ⟨rfl, kx⟩
         have kX := hide (below_more (Below.drew kW.out) (Nat.le_refl _) kx)
         clear kW
         have kW := hide kX.out
         clear kx kX)
      | (go_at_call 15; with_reducible refine (YS.out _ kW.out).mono ?_
         rintro e wx ⟨rfl, kx⟩
         have kX := hide (below_more kW.out (Nat.le_refl _) kx)
         clear kW
         have kW := hide kX.out
         clear kx kX)
      | (go_at_call 6; with_reducible refine (YH.out _ (Below.drew kW.out)).mono ?_
         rintro e wx ⟨rfl, kx⟩
         have kX := hide (below_more (Below.drew kW.out) (Nat.le_refl _) kx)
         clear kW
         have kW := hide kX.out
         clear kx kX)
      | (go_at_call 6; with_reducible refine (YH.out _ kW.out).mono ?_
         rintro e wx ⟨rfl, kx⟩
         have kX := hide (below_more kW.out (Nat.le_refl _) kx)
         clear kW
         have kW := hide kX.out
         clear kx kX))
      all_goals
        go_wp2
        go_ret
        exact ⟨rfl, below_more HB6.out (Nat.le_refl _) kW.out⟩
theorem cuts_fin (bs : LB) (r : Rec) (A RA : Option Addr) (n c rn rc : Nat) (w : World) (hR : Rd w A n bs) (hnc : n ≤ c) (hD : Rd w RA rn r.dig) (hdc : rn ≤ rc) (hS : Std w ∧ Tabs w ∧ ∃ a0 a1 a2, Sent a0 a1 a2 w) :
    Calls Tryd.prog 4 #[.slice A n c, Rec.v r RA rn rc] w fun e w' => e = .returned (.bool true) ∧ Below w.heap.size w w' := by
  obtain ⟨h1, h2, s0, s1, s2, h3⟩ := hS
  exact cuts_law bs r A RA n c rn rc s0 s1 s2 w hR hnc hD hdc h1 h2 h3
end Go.Proofs.YtbbobffedgcbhaaDoor
