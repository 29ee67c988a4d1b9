/- PipeDoes: the walk up to what the last region reads. -/
import Derived.Test.YtpbhkceinnganaaPipeT
import Derived.Test.YtpbhkceinnganaaPipeU
import Derived.Test.YtpbhkceinnganaaLawR
import Derived.Deep.DeepCutAuto
namespace Go.Proofs.Ytpbhkceinnganaa
open Go.RowKit
set_option linter.unusedVariables false

/-- An empty row that was made. -/
theorem own_none (W : World) (B : Nat) (h : B ≤ W.heap.size) : (W.alloc (.cells #[] 5)).ownsRow B 5 1 (.slice (some ⟨W.heap.size, 0, none⟩) 0 0) 0 [] :=
  Blk.own (cap := 0) (Blk.new W 5 #[]) h (Nat.zero_le _) rfl

theorem calls_same (wF : World) (A B : Option Addr) (n m c k : Nat) (r u : Int) (a : List UInt8) (ha : Rd wF A n a) (hb : Rd wF B m a) :
    Hid (∀ W, Below wF.heap.size wF W → Calls Try.prog 13 #[pv A n c r u, pv B m k r u] W fun e w' => e = .returned (.bool true) ∧ Below W.heap.size W w') := hide fun W h => by
  refine (rsame_any A B n m c k r u r u a a W ((ha.below h).more h.size) ((hb.below h).more h.size)).mono ?_
  rintro e w' ⟨rfl, k⟩
  exact ⟨by simp, k⟩

theorem calls_eq (wF : World) (A B : Option Addr) (n m c k : Nat) (a : List UInt8) (ha : Rd wF A n a) (hb : Rd wF B m a) :
    Hid (∀ W, Below wF.heap.size wF W → Calls Try.prog 14 #[.slice A n c, .slice B m k] W fun e w' => e = .returned (.bool true) ∧ Below W.heap.size W w') := hide fun W h => by
  refine (same_any A B n m c k a a W _ _ (ha.below h) (hb.below h)).mono ?_
  rintro e w' ⟨rfl, rfl⟩
  exact ⟨by simp, Below.refl _ _⟩
theorem calls_check (wF : World) (A : Option Addr) (n c : Nat) (r u : Int) (hn : n ≤ maxLen) :
    Hid (∀ W, Below wF.heap.size wF W → Calls Try.prog 15 #[pv A n c r u] W fun e w' => e = .returned (.bool (okP n r u)) ∧ Below W.heap.size W w') := hide fun W h => by
  refine (check_any A n c r u W hn).mono ?_
  rintro e w' ⟨rfl, rfl⟩
  exact ⟨rfl, (Below.refl _ _).alloc (Nat.le_refl _) _⟩
theorem calls_rcheck (wF : World) (A : Option Addr) (n c : Nat) (r u : Int) (hn : n ≤ maxLen) :
    Hid (∀ W, Below wF.heap.size wF W → Calls Try.prog 16 #[pv A n c r u] W fun e w' => e = .returned (.bool (okP n r u)) ∧ Below W.heap.size W w') := hide fun W h => by
  refine (rcheck_any A n c r u W hn).mono ?_
  rintro e w' ⟨rfl, rfl⟩
  exact ⟨rfl, (Below.refl _ _).alloc (Nat.le_refl _) _⟩
theorem calls_ready (wF : World) (A : Option Addr) (n c : Nat) (r u : Int) (wr : Bool) (hn : n ≤ maxLen) :
    Hid (∀ W, Below wF.heap.size wF W → Calls Try.prog 17 #[pv A n c r u, .bool wr] W fun e w' => e = .returned (.bool (rdyS n r u wr)) ∧ Below W.heap.size W w') := hide fun W h => ready_any A n c r u wr W hn
theorem calls_rready (wF : World) (A : Option Addr) (n c : Nat) (r u : Int) (wr : Bool) (hn : n ≤ maxLen) :
    Hid (∀ W, Below wF.heap.size wF W → Calls Try.prog 18 #[pv A n c r u, .bool wr] W fun e w' => e = .returned (.bool (rdyS n r u wr)) ∧ Below W.heap.size W w') := hide fun W h => rready_any A n c r u wr W hn
theorem calls_hh (hh : HeadsOk) (wF : World) :
    Hid (∀ W, Below wF.heap.size wF W → Calls Try.prog 6 #[] W fun e w' => e = .returned (.bool true) ∧ Below W.heap.size W w') := hide fun W h => hh W

set_option maxRecDepth 10000 in
set_option maxHeartbeats 16000000 in
theorem does_law (hh : HeadsOk) (A : Option Addr) (n c : Nat) (r u : Int) (d : List UInt8) (B : Option Addr) (m kb : Nat) (b : List UInt8) (k : Int) (wr : Bool) (w : World) (hr : Rd w A n d) (hc : n ≤ c) (hcc : c ≤ maxLen)
    (hb : Rd w B m b) (hmk : m ≤ kb) (hmm : kb ≤ maxLen) (hk0 : -9223372036854775808 ≤ k) (hk1 : k ≤ 9223372036854775807) :
    Calls Try.prog 3 #[pv A n c r u, .slice B m kb, .int .i64 k, .bool wr] w fun e w' => e = .returned (.bool true) ∧ Below w.heap.size w w' := by
  have hl := hr.len
  subst hl
  have hl := hb.len
  subst hl
  have hmx := hcc
  have hmy := hmm
  unfold maxLen at hmx hmy
  by_cases h2 : d.length ≤ 200
  rotate_left
  · go_enter Try.func3, Try.ntmps3
    go_wp2_with fail
    refine (hh _).mono ?_
    rintro e w2 ⟨rfl, k2⟩
    go_wp2
    go_ret
    exact ⟨rfl, below_more ((Below.refl w.heap.size w).alloc (Nat.le_refl _) _) (Nat.le_refl _) k2⟩
  by_cases h5 : b.length ≤ 500
  rotate_left
  · go_enter Try.func3, Try.ntmps3
    go_wp2_with fail
    refine (hh _).mono ?_
    rintro e w2 ⟨rfl, k2⟩
    go_wp2
    go_ret
    exact ⟨rfl, below_more ((Below.refl w.heap.size w).alloc (Nat.le_refl _) _) (Nat.le_refl _) k2⟩
  obtain ⟨i0, hi, hz0', hz1', hz2'⟩ := info_parts infoU8
  go_enter Try.func3, Try.ntmps3
  go_upto_region 3 with (fail)
  generalize hW1 : w.alloc (.cells #[Value.slice A d.length c, .int .i64 r, .int .i64 u] 24) = w1
  have bP : Blk w1 w.heap.size 24 #[Value.slice A d.length c, .int .i64 r, .int .i64 u] := by rw [← hW1]; exact Blk.new w 24 _
  have K1 : Hid (Below w.heap.size w w1) := hide (by rw [← hW1]; exact (Below.refl w.heap.size w).alloc (Nat.le_refl _) _)
  have zw1 : w1.heap.size = w.heap.size + 1 := by rw [← hW1]; simp
  have hr1 : Reads w1 w.heap.size 1 A d.length (bv d) := Reads.below hr K1.out
  clear hW1
  obtain ⟨x0, x1, x2, y0, y1, y2⟩ := bP.three
  go_cut [9] (fun s9 wx => ∃ (gq : Nat) (A9 : Option Addr) (c9 : Nat), s9 = .pointer (some ⟨gq, 0, none⟩) ∧ Blk wx w.heap.size 24 #[Value.slice A d.length c, .int .i64 r, .int .i64 u] ∧ Blk wx gq 24 #[Value.slice A9 d.length c9, .int .i64 r, .int .i64 u] ∧ Rc w.heap.size wx A9 d.length c9 d ∧ Below w.heap.size w wx)
  case first =>
    have O1 := hide ((own_none w1 w1.heap.size (Nat.le_refl _)).drew)
    have O2 := hide (((own_none w1 w1.heap.size (Nat.le_refl _)).alloc (.cells #[Value.slice none 0 0, .int .i64 0, .int .i64 0] 24)).drew)
    have O3 := hide ((own_none (w1.alloc (.cells #[Value.slice none 0 0, .int .i64 0, .int .i64 0] 24)) w1.heap.size (by simp)).drew)
    rw [World.size_alloc] at O3
    have R1 := hide ((hr1.alloc (by omega) (.cells #[] 5)).drew)
    have R2 := hide (((hr1.alloc (by omega) (.cells #[] 5)).alloc (by simp; omega) (.cells #[Value.slice none 0 0, .int .i64 0, .int .i64 0] 24)).drew)
    have R3 := hide (((hr1.alloc (by omega) (.cells #[Value.slice none 0 0, .int .i64 0, .int .i64 0] 24)).alloc (by simp; omega) (.cells #[] 5)).drew)
    have ZW1 := hide zw1
    clear zw1
    go_region_held3 (fun W => W.cell? ⟨w.heap.size, 0, none⟩ = some (.slice A d.length c) ∧ W.cell? ⟨w.heap.size, 1, none⟩ = some (.int .i64 r) ∧ W.cell? ⟨w.heap.size, 2, none⟩ = some (.int .i64 u))
      (first | exact ⟨x0, x1, x2⟩ | exact ⟨u0, u1, u2⟩ | with_reducible exact blk3 (bP.alloc _).drew | with_reducible exact blk3 ((bP.alloc _).alloc _).drew | with_reducible exact blk3 (bP2.out.alloc _) | with_reducible exact blk3 (((bP2.out.far (p := ⟨w1.heap.size, 0, none⟩) hq2 _).far (p := ⟨w1.heap.size, 1, none⟩) hq2 _).far (p := ⟨w1.heap.size, 2, none⟩) hq2 _) | with_reducible exact blk3 (((bP2.out.far (p := ⟨w1.heap.size + 1, 0, none⟩) hq2 _).far (p := ⟨w1.heap.size + 1, 1, none⟩) hq2 _).far (p := ⟨w1.heap.size + 1, 2, none⟩) hq2 _) | with_reducible exact blk3 ((((bP2.out.alloc _).far (p := ⟨W2.heap.size, 0, none⟩) hq2 _).far (p := ⟨W2.heap.size, 1, none⟩) hq2 _).far (p := ⟨W2.heap.size, 2, none⟩) hq2 _))
      (first
        | (with_reducible refine step_append_any _ ?q11 (.tmp 36) (.tmp 38) 22 ?q12 w1.heap.size 5 i0 _ 1 1 Try.underlying22 hi hz0' hz1' hz2' ?q13 (Nat.lt_succ_self 0) (.slice (some ⟨w1.heap.size, 0, none⟩) 0 0) 0 [] ?q15 O1.out w.heap.size A d.length c (bv d) ?q16 R1.out (bv_one _) ?q18 ?q19 ?q110 ?q111
           case q11 => rfl
           case q12 => rfl
           case q13 => rfl
           case q15 => rfl
           case q16 => rfl
           case q18 => (unfold maxLen; omega)
           case q19 => omega
           case q110 => (simp; try (have zw1 := ZW1.out; omega))
           intro v1 W2 hown1 hg1 hat1
           have zw1 := ZW1.out
           rw [Nat.zero_add, List.nil_append] at hown1
           obtain ⟨B1, e1, rfl⟩ := own_slice hown1
           have bP2 := hide (Blk.grown (h := (by exact (bP.alloc (.cells #[] 5)).drew)) (hb := hg1) (by simp [Value.ownBlock]; try omega))
           have bQ2 : True := trivial
           have hgs := hg1.size
           try simp at hgs
           have hq2 : w.heap.size ≠ W2.heap.size := (by omega)
           have L2 : Hid (Below w.heap.size w W2) := hide (Below.grown (h := (by exact (K1.out.alloc (by omega) (.cells #[] 5)).drew)) (hg := hg1) (by simp; try omega) (fun g hg => by simp [Value.ownBlock] at hg; omega))
           have HO := hide hown1
           obtain ⟨u0, u1, u2, v0, v1, v2⟩ := bP2.out.three
           have HQ2 := hide hq2
           have HGS := hide hgs
           clear hat1 hg1 hown1 zw1 hgs)
        | (with_reducible refine step_append_any _ ?q21 (.tmp 36) (.tmp 38) 22 ?q22 w1.heap.size 5 i0 _ 1 1 Try.underlying22 hi hz0' hz1' hz2' ?q23 (Nat.lt_succ_self 0) (.slice (some ⟨w1.heap.size, 0, none⟩) 0 0) 0 [] ?q25 O2.out w.heap.size A d.length c (bv d) ?q26 R2.out (bv_one _) ?q28 ?q29 ?q210 ?q211
           case q21 => rfl
           case q22 => rfl
           case q23 => rfl
           case q25 => rfl
           case q26 => rfl
           case q28 => (unfold maxLen; omega)
           case q29 => omega
           case q210 => (simp; try (have zw1 := ZW1.out; omega))
           intro v1 W2 hown1 hg1 hat1
           have zw1 := ZW1.out
           rw [Nat.zero_add, List.nil_append] at hown1
           obtain ⟨B1, e1, rfl⟩ := own_slice hown1
           have bP2 := hide (Blk.grown (h := (by exact ((bP.alloc (.cells #[] 5)).alloc (.cells #[Value.slice none 0 0, .int .i64 0, .int .i64 0] 24)).drew)) (hb := hg1) (by simp [Value.ownBlock]; try omega))
           have bQ2 := hide (Blk.grown (h := (by exact (Blk.new (w1.alloc (.cells #[] 5)) 24 #[Value.slice none 0 0, .int .i64 0, .int .i64 0]).drew)) (hb := hg1) (by simp [Value.ownBlock]; try omega))
           rw [World.size_alloc] at bQ2
           have hgs := hg1.size
           try simp at hgs
           have hq2 : w.heap.size ≠ w1.heap.size + 1 := (by omega)
           have L2 : Hid (Below w.heap.size w W2) := hide (Below.grown (h := (by exact ((K1.out.alloc (by omega) (.cells #[] 5)).alloc (by simp; try omega) (.cells #[Value.slice none 0 0, .int .i64 0, .int .i64 0] 24)).drew)) (hg := hg1) (by simp; try omega) (fun g hg => by simp [Value.ownBlock] at hg; omega))
           have HO := hide hown1
           obtain ⟨u0, u1, u2, v0, v1, v2⟩ := bP2.out.three
           obtain ⟨t0, t1, t2, r0, r1, r2⟩ := bQ2.out.three
           have HQ2 := hide hq2
           have HGS := hide hgs
           clear hat1 hg1 hown1 zw1 hgs)
        | (with_reducible refine step_append_any _ ?q31 (.tmp 36) (.tmp 38) 22 ?q32 w1.heap.size 5 i0 _ 1 1 Try.underlying22 hi hz0' hz1' hz2' ?q33 (Nat.lt_succ_self 0) (.slice (some ⟨w1.heap.size + 1, 0, none⟩) 0 0) 0 [] ?q35 O3.out w.heap.size A d.length c (bv d) ?q36 R3.out (bv_one _) ?q38 ?q39 ?q310 ?q311
           case q31 => rfl
           case q32 => rfl
           case q33 => rfl
           case q35 => rfl
           case q36 => rfl
           case q38 => (unfold maxLen; omega)
           case q39 => omega
           case q310 => (simp; try (have zw1 := ZW1.out; omega))
           intro v1 W2 hown1 hg1 hat1
           have zw1 := ZW1.out
           rw [Nat.zero_add, List.nil_append] at hown1
           obtain ⟨B1, e1, rfl⟩ := own_slice hown1
           have bP2 := hide (Blk.grown (h := (by exact ((bP.alloc (.cells #[Value.slice none 0 0, .int .i64 0, .int .i64 0] 24)).alloc (.cells #[] 5)).drew)) (hb := hg1) (by simp [Value.ownBlock]; try omega))
           have bQ2 := hide (Blk.grown (h := (by exact ((Blk.new w1 24 #[Value.slice none 0 0, .int .i64 0, .int .i64 0]).alloc (.cells #[] 5)).drew)) (hb := hg1) (by simp [Value.ownBlock]; try omega))
           have hgs := hg1.size
           try simp at hgs
           have hq2 : w.heap.size ≠ w1.heap.size := (by omega)
           have L2 : Hid (Below w.heap.size w W2) := hide (Below.grown (h := (by exact ((K1.out.alloc (by omega) (.cells #[Value.slice none 0 0, .int .i64 0, .int .i64 0] 24)).alloc (by simp; try omega) (.cells #[] 5)).drew)) (hg := hg1) (by simp; try omega) (fun g hg => by simp [Value.ownBlock] at hg; omega))
           have HO := hide hown1
           obtain ⟨u0, u1, u2, v0, v1, v2⟩ := bP2.out.three
           obtain ⟨t0, t1, t2, r0, r1, r2⟩ := bQ2.out.three
           have HQ2 := hide hq2
           have HGS := hide hgs
           clear hat1 hg1 hown1 zw1 hgs))
    all_goals
      go_wp2_with fail
      go_meet
    · have zw1 := ZW1.out
      have hgs := HGS.out
      exact ⟨W2.heap.size, B1, e1, rfl, bP2.out.alloc _, Blk.new W2 24 _, own_more (HO.out.alloc _) (by omega), L2.out.alloc L2.out.size _⟩
    · have zw1 := ZW1.out
      have hgs := HGS.out
      refine ⟨w1.heap.size + 1, B1, e1, rfl, ((bP2.out.far (p := ⟨w1.heap.size + 1, 0, none⟩) hq2 _).far (p := ⟨w1.heap.size + 1, 1, none⟩) hq2 _).far (p := ⟨w1.heap.size + 1, 2, none⟩) hq2 _, ((bQ2.out.set_ 0 _).set_ 1 _).set_ 2 _, ?_, ?_⟩
      · exact own_more (own_set_blk (own_set_blk (own_set_blk HO.out (p := ⟨w1.heap.size + 1, 0, none⟩) bQ2.out (by decide) _) (p := ⟨w1.heap.size + 1, 1, none⟩) (bQ2.out.set_ 0 _) (by decide) _) (p := ⟨w1.heap.size + 1, 2, none⟩) ((bQ2.out.set_ 0 _).set_ 1 _) (by decide) _) (by omega)
      · exact ((L2.out.setCell (by simp; omega) _).setCell (by simp; omega) _).setCell (by simp; omega) _
    · have zw1 := ZW1.out
      have hgs := HGS.out
      refine ⟨w1.heap.size, B1, e1, rfl, ((bP2.out.far (p := ⟨w1.heap.size, 0, none⟩) hq2 _).far (p := ⟨w1.heap.size, 1, none⟩) hq2 _).far (p := ⟨w1.heap.size, 2, none⟩) hq2 _, ((bQ2.out.set_ 0 _).set_ 1 _).set_ 2 _, ?_, ?_⟩
      · exact own_more (own_set_blk (own_set_blk (own_set_blk HO.out (p := ⟨w1.heap.size, 0, none⟩) bQ2.out (by decide) _) (p := ⟨w1.heap.size, 1, none⟩) (bQ2.out.set_ 0 _) (by decide) _) (p := ⟨w1.heap.size, 2, none⟩) ((bQ2.out.set_ 0 _).set_ 1 _) (by decide) _) (by omega)
      · exact ((L2.out.setCell (by simp; omega) _).setCell (by simp; omega) _).setCell (by simp; omega) _
  case rest =>
    obtain ⟨gq, A9, c9, rfl, bP, bQ, R9, K⟩ := hcut
    have RR := hide R9
    have KK := hide K
    have cap9 := hide R9.caps
    have hrA := hide ((Reads.below hr K).more K.size)
    have hrB := hide ((Reads.below hb K).more K.size)
    have BP3 := hide bP
    have BQ3 := hide bQ
    have CC3 := hide (Below.refl wc.heap.size wc)
    clear R9 K x0 x1 x2 y0 y1 y2 hi hz0' hz1' hz2' hr1 zw1 K1 hr hb
    obtain ⟨x0, x1, x2, y0, y1, y2⟩ := BP3.out.three
    obtain ⟨u0, u1, u2, v0, v1, v2⟩ := BQ3.out.three
    clear bP bQ
    go_wp2_with fail
    refine (write_any A9 d.length c9 r u d B b.length kb b _ ((Reads.below RR.out.rd CC3.out).more CC3.out.size) (by omega) ((Reads.below hrB.out CC3.out).more CC3.out.size) (by omega) hmk).mono ?_
    rintro e w4 ⟨A10, n10, c10, rfl, h10, k4⟩
    clear x0 x1 x2 y0 y1 y2 u0 u1 u2 v0 v1 v2
    have BP4 := hide (BP3.out.below k4 BP3.out.lt)
    have BQ4 := hide (BQ3.out.below k4 BQ3.out.lt)
    have CC4 := hide k4
    have R10 := hide h10.rd
    clear h10 k4
    obtain ⟨x0, x1, x2, y0, y1, y2⟩ := BP4.out.three
    obtain ⟨u0, u1, u2, v0, v1, v2⟩ := BQ4.out.three
    have zp4 := BP4.out.lt
    have zq4 := BQ4.out.lt
    go_wp2_with fail
    refine (rwrite_any A c r u d B kb b _ ((Reads.below hrA.out (CC4.out.alloc CC4.out.size _)).more (CC4.out.alloc CC4.out.size _).size) (by omega) ((Reads.below hrB.out (CC4.out.alloc CC4.out.size _)).more (CC4.out.alloc CC4.out.size _).size) (by omega) hmk).mono ?_
    rintro e w5 ⟨A13, n13, c13, rfl, h13, k5⟩
    clear x0 x1 x2 y0 y1 y2 u0 u1 u2 v0 v1 v2
    have BP5 := hide ((BP4.out.alloc (.cells #[Value.slice A10 n10 c10, .int .i64 r, .int .i64 u] 24)).below k5 (BP4.out.alloc (.cells #[Value.slice A10 n10 c10, .int .i64 r, .int .i64 u] 24)).lt)
    have BQ5 := hide ((BQ4.out.alloc (.cells #[Value.slice A10 n10 c10, .int .i64 r, .int .i64 u] 24)).below k5 (BQ4.out.alloc (.cells #[Value.slice A10 n10 c10, .int .i64 r, .int .i64 u] 24)).lt)
    have CC5 := hide (below_more (CC4.out.alloc CC4.out.size (.cells #[Value.slice A10 n10 c10, .int .i64 r, .int .i64 u] 24)) (Nat.le_refl _) k5)
    have KS4 := hide (below_more ((Below.refl w4.heap.size w4).alloc (Nat.le_refl _) (.cells #[Value.slice A10 n10 c10, .int .i64 r, .int .i64 u] 24)) (Nat.le_refl _) k5)
    have BX4 := hide ((Blk.new w4 24 #[Value.slice A10 n10 c10, .int .i64 r, .int .i64 u]).below k5 (Blk.new w4 24 #[Value.slice A10 n10 c10, .int .i64 r, .int .i64 u]).lt)
    have R13 := hide h13
    clear h13 k5
    obtain ⟨x0, x1, x2, y0, y1, y2⟩ := BP5.out.three
    obtain ⟨u0, u1, u2, v0, v1, v2⟩ := BQ5.out.three
    have zp5 := BP5.out.lt
    have zq5 := BQ5.out.lt
    go_wp2_with fail
    refine (read_any A9 c9 r u d k _ ((Reads.below RR.out.rd (CC5.out.alloc CC5.out.size _)).more (CC5.out.alloc CC5.out.size _).size) (by omega) cap9.out.1 cap9.out.2 hk0 hk1).mono ?_
    rintro e w6 ⟨A16, n16, c16, B17, m17, c17, rfl, h16, h17, k6⟩
    clear x0 x1 x2 y0 y1 y2 u0 u1 u2 v0 v1 v2
    have BP6 := hide ((BP5.out.alloc (.cells #[Value.slice A13 n13 c13, .int .i64 r, .int .i64 u] 24)).below k6 (BP5.out.alloc (.cells #[Value.slice A13 n13 c13, .int .i64 r, .int .i64 u] 24)).lt)
    have BQ6 := hide ((BQ5.out.alloc (.cells #[Value.slice A13 n13 c13, .int .i64 r, .int .i64 u] 24)).below k6 (BQ5.out.alloc (.cells #[Value.slice A13 n13 c13, .int .i64 r, .int .i64 u] 24)).lt)
    have CC6 := hide (below_more (CC5.out.alloc CC5.out.size (.cells #[Value.slice A13 n13 c13, .int .i64 r, .int .i64 u] 24)) (Nat.le_refl _) k6)
    have KS5 := hide (below_more ((Below.refl w5.heap.size w5).alloc (Nat.le_refl _) (.cells #[Value.slice A13 n13 c13, .int .i64 r, .int .i64 u] 24)) (Nat.le_refl _) k6)
    have BX5 := hide ((Blk.new w5 24 #[Value.slice A13 n13 c13, .int .i64 r, .int .i64 u]).below k6 (Blk.new w5 24 #[Value.slice A13 n13 c13, .int .i64 r, .int .i64 u]).lt)
    have R16 := hide h16.rd
    have R17 := hide h17
    clear h16 h17 k6
    obtain ⟨x0, x1, x2, y0, y1, y2⟩ := BP6.out.three
    obtain ⟨u0, u1, u2, v0, v1, v2⟩ := BQ6.out.three
    have zp6 := BP6.out.lt
    have zq6 := BQ6.out.lt
    go_wp2_with fail
    refine (rread_any A c r u d k _ ((Reads.below hrA.out (CC6.out.alloc CC6.out.size _)).more (CC6.out.alloc CC6.out.size _).size) (by omega) hc hcc hk0 hk1).mono ?_
    rintro e w7 ⟨A19, n19, c19, B20, m20, c20, rfl, h19, h20, k7⟩
    clear x0 x1 x2 y0 y1 y2 u0 u1 u2 v0 v1 v2
    have BP7 := hide ((BP6.out.alloc (.cells #[Value.slice A16 n16 c16, .int .i64 r, .int .i64 u] 24)).below k7 (BP6.out.alloc (.cells #[Value.slice A16 n16 c16, .int .i64 r, .int .i64 u] 24)).lt)
    have BQ7 := hide ((BQ6.out.alloc (.cells #[Value.slice A16 n16 c16, .int .i64 r, .int .i64 u] 24)).below k7 (BQ6.out.alloc (.cells #[Value.slice A16 n16 c16, .int .i64 r, .int .i64 u] 24)).lt)
    have CC7 := hide (below_more (CC6.out.alloc CC6.out.size (.cells #[Value.slice A16 n16 c16, .int .i64 r, .int .i64 u] 24)) (Nat.le_refl _) k7)
    have KS6 := hide (below_more ((Below.refl w6.heap.size w6).alloc (Nat.le_refl _) (.cells #[Value.slice A16 n16 c16, .int .i64 r, .int .i64 u] 24)) (Nat.le_refl _) k7)
    have BX6 := hide ((Blk.new w6 24 #[Value.slice A16 n16 c16, .int .i64 r, .int .i64 u]).below k7 (Blk.new w6 24 #[Value.slice A16 n16 c16, .int .i64 r, .int .i64 u]).lt)
    have R19 := hide h19
    have R20 := hide h20
    clear h19 h20 k7
    obtain ⟨x0, x1, x2, y0, y1, y2⟩ := BP7.out.three
    obtain ⟨u0, u1, u2, v0, v1, v2⟩ := BQ7.out.three
    have zp7 := BP7.out.lt
    have zq7 := BQ7.out.lt
    go_wp2_with fail
    refine (open_any A9 c9 r u d wr k _ ((Reads.below RR.out.rd (CC7.out.alloc CC7.out.size _)).more (CC7.out.alloc CC7.out.size _).size) (by omega)).mono ?_
    rintro e w8 ⟨A22, c22, rfl, h22, k8⟩
    clear x0 x1 x2 y0 y1 y2 u0 u1 u2 v0 v1 v2
    have BP8 := hide ((BP7.out.alloc (.cells #[Value.slice A19 n19 c19, .int .i64 r, .int .i64 u] 24)).below k8 (BP7.out.alloc (.cells #[Value.slice A19 n19 c19, .int .i64 r, .int .i64 u] 24)).lt)
    have BQ8 := hide ((BQ7.out.alloc (.cells #[Value.slice A19 n19 c19, .int .i64 r, .int .i64 u] 24)).below k8 (BQ7.out.alloc (.cells #[Value.slice A19 n19 c19, .int .i64 r, .int .i64 u] 24)).lt)
    have CC8 := hide (below_more (CC7.out.alloc CC7.out.size (.cells #[Value.slice A19 n19 c19, .int .i64 r, .int .i64 u] 24)) (Nat.le_refl _) k8)
    have KS7 := hide (below_more ((Below.refl w7.heap.size w7).alloc (Nat.le_refl _) (.cells #[Value.slice A19 n19 c19, .int .i64 r, .int .i64 u] 24)) (Nat.le_refl _) k8)
    have BX7 := hide ((Blk.new w7 24 #[Value.slice A19 n19 c19, .int .i64 r, .int .i64 u]).below k8 (Blk.new w7 24 #[Value.slice A19 n19 c19, .int .i64 r, .int .i64 u]).lt)
    have R22 := hide h22.rd
    clear h22 k8
    obtain ⟨x0, x1, x2, y0, y1, y2⟩ := BP8.out.three
    obtain ⟨u0, u1, u2, v0, v1, v2⟩ := BQ8.out.three
    have zp8 := BP8.out.lt
    have zq8 := BQ8.out.lt
    go_wp2_with fail
    refine (ropen_any A c r u d wr k _ ((Reads.below hrA.out (CC8.out.alloc CC8.out.size _)).more (CC8.out.alloc CC8.out.size _).size) (by omega)).mono ?_
    rintro e w9 ⟨A24, c24, rfl, h24, k9⟩
    clear x0 x1 x2 y0 y1 y2 u0 u1 u2 v0 v1 v2
    have BP9 := hide ((BP8.out.alloc (.cells #[Value.slice A22 d.length c22, .int .i64 (opR d.length r u wr k), .int .i64 (opU d.length r u wr k)] 24)).below k9 (BP8.out.alloc (.cells #[Value.slice A22 d.length c22, .int .i64 (opR d.length r u wr k), .int .i64 (opU d.length r u wr k)] 24)).lt)
    have BQ9 := hide ((BQ8.out.alloc (.cells #[Value.slice A22 d.length c22, .int .i64 (opR d.length r u wr k), .int .i64 (opU d.length r u wr k)] 24)).below k9 (BQ8.out.alloc (.cells #[Value.slice A22 d.length c22, .int .i64 (opR d.length r u wr k), .int .i64 (opU d.length r u wr k)] 24)).lt)
    have CC9 := hide (below_more (CC8.out.alloc CC8.out.size (.cells #[Value.slice A22 d.length c22, .int .i64 (opR d.length r u wr k), .int .i64 (opU d.length r u wr k)] 24)) (Nat.le_refl _) k9)
    have KS8 := hide (below_more ((Below.refl w8.heap.size w8).alloc (Nat.le_refl _) (.cells #[Value.slice A22 d.length c22, .int .i64 (opR d.length r u wr k), .int .i64 (opU d.length r u wr k)] 24)) (Nat.le_refl _) k9)
    have BX8 := hide ((Blk.new w8 24 #[Value.slice A22 d.length c22, .int .i64 (opR d.length r u wr k), .int .i64 (opU d.length r u wr k)]).below k9 (Blk.new w8 24 #[Value.slice A22 d.length c22, .int .i64 (opR d.length r u wr k), .int .i64 (opU d.length r u wr k)]).lt)
    have R24 := hide h24
    clear h24 k9
    go_upto_region 10 with (fail)
    generalize hWF : w9.alloc (.cells #[Value.slice A24 d.length c24, .int .i64 (opR d.length r u wr k), .int .i64 (opU d.length r u wr k)] 24) = wF
    have F9 : Hid (Below w9.heap.size w9 wF) := hide (by rw [← hWF]; exact (Below.refl w9.heap.size w9).alloc (Nat.le_refl _) _)
    have Y9 : Hid (Blk wF w9.heap.size 24 #[Value.slice A24 d.length c24, .int .i64 (opR d.length r u wr k), .int .i64 (opU d.length r u wr k)]) := hide (by rw [← hWF]; exact Blk.new w9 24 _)
    clear hWF
    have F8 := hide (below_more KS8.out (Nat.le_refl _) F9.out)
    have F7 := hide (below_more KS7.out (Nat.le_refl _) F8.out)
    have F6 := hide (below_more KS6.out (Nat.le_refl _) F7.out)
    have F5 := hide (below_more KS5.out (Nat.le_refl _) F6.out)
    have F4 := hide (below_more KS4.out (Nat.le_refl _) F5.out)
    have Y4 := hide (BX4.out.below F5.out BX4.out.lt)
    have Y5 := hide (BX5.out.below F6.out BX5.out.lt)
    have Y6 := hide (BX6.out.below F7.out BX6.out.lt)
    have Y7 := hide (BX7.out.below F8.out BX7.out.lt)
    have Y8 := hide (BX8.out.below F9.out BX8.out.lt)
    have YP := hide (BP9.out.below F9.out BP9.out.lt)
    have YQ := hide (BQ9.out.below F9.out BQ9.out.lt)
    have CF := hide (below_more CC9.out (Nat.le_refl _) F9.out)
    have X1 := calls_same wF A10 A13 n10 n13 c10 c13 r u _ ((Reads.below R10.out F4.out).more F4.out.size) ((Reads.below R13.out F5.out).more F5.out.size)
    have X2 := calls_same wF A16 A19 n16 n19 c16 c19 r u _ ((Reads.below R16.out F6.out).more F6.out.size) ((Reads.below R19.out F7.out).more F7.out.size)
    have X3 := calls_same wF A22 A24 d.length d.length c22 c24 (opR d.length r u wr k) (opU d.length r u wr k) _ ((Reads.below R22.out F8.out).more F8.out.size) ((Reads.below R24.out F9.out).more F9.out.size)
    have X4 := calls_same wF A9 A d.length d.length c9 c r u _ ((Reads.below RR.out.rd CF.out).more CF.out.size) ((Reads.below hrA.out CF.out).more CF.out.size)
    have X5 := calls_eq wF B17 B20 m17 m20 c17 c20 _ ((Reads.below R17.out F6.out).more F6.out.size) ((Reads.below R20.out F7.out).more F7.out.size)
    have zd : d.length ≤ maxLen := by unfold maxLen; omega
    have X6 := calls_check wF A9 d.length c9 r u zd
    have X7 := calls_rcheck wF A d.length c r u zd
    have X8 := calls_ready wF A9 d.length c9 r u wr zd
    have X9 := calls_rready wF A d.length c r u wr zd
    have X10 := calls_hh hh wF
    have allS : Hid (∀ W, Below wF.heap.size wF W → (W.cell? ⟨w4.heap.size, 0, none⟩ = some (Value.slice A10 n10 c10) ∧ W.cell? ⟨w4.heap.size, 1, none⟩ = some (.int .i64 r) ∧ W.cell? ⟨w4.heap.size, 2, none⟩ = some (.int .i64 u) ∧ W.cell? ⟨w5.heap.size, 0, none⟩ = some (Value.slice A13 n13 c13) ∧ W.cell? ⟨w5.heap.size, 1, none⟩ = some (.int .i64 r) ∧ W.cell? ⟨w5.heap.size, 2, none⟩ = some (.int .i64 u) ∧ W.cell? ⟨w6.heap.size, 0, none⟩ = some (Value.slice A16 n16 c16) ∧ W.cell? ⟨w6.heap.size, 1, none⟩ = some (.int .i64 r) ∧ W.cell? ⟨w6.heap.size, 2, none⟩ = some (.int .i64 u) ∧ W.cell? ⟨w7.heap.size, 0, none⟩ = some (Value.slice A19 n19 c19) ∧ W.cell? ⟨w7.heap.size, 1, none⟩ = some (.int .i64 r) ∧ W.cell? ⟨w7.heap.size, 2, none⟩ = some (.int .i64 u) ∧ W.cell? ⟨w8.heap.size, 0, none⟩ = some (Value.slice A22 d.length c22) ∧ W.cell? ⟨w8.heap.size, 1, none⟩ = some (.int .i64 (opR d.length r u wr k)) ∧ W.cell? ⟨w8.heap.size, 2, none⟩ = some (.int .i64 (opU d.length r u wr k)) ∧ W.cell? ⟨w9.heap.size, 0, none⟩ = some (Value.slice A24 d.length c24) ∧ W.cell? ⟨w9.heap.size, 1, none⟩ = some (.int .i64 (opR d.length r u wr k)) ∧ W.cell? ⟨w9.heap.size, 2, none⟩ = some (.int .i64 (opU d.length r u wr k)) ∧ W.cell? ⟨w.heap.size, 0, none⟩ = some (Value.slice A d.length c) ∧ W.cell? ⟨w.heap.size, 1, none⟩ = some (.int .i64 r) ∧ W.cell? ⟨w.heap.size, 2, none⟩ = some (.int .i64 u) ∧ W.cell? ⟨gq, 0, none⟩ = some (Value.slice A9 d.length c9) ∧ W.cell? ⟨gq, 1, none⟩ = some (.int .i64 r) ∧ W.cell? ⟨gq, 2, none⟩ = some (.int .i64 u))) := hide fun W h => by
      obtain ⟨a0, b0, c0'⟩ := blk3 (Y4.out.below h Y4.out.lt)
      obtain ⟨a1, b1, c1'⟩ := blk3 (Y5.out.below h Y5.out.lt)
      obtain ⟨a2, b2, c2'⟩ := blk3 (Y6.out.below h Y6.out.lt)
      obtain ⟨a3, b3, c3'⟩ := blk3 (Y7.out.below h Y7.out.lt)
      obtain ⟨a4, b4, c4'⟩ := blk3 (Y8.out.below h Y8.out.lt)
      obtain ⟨a5, b5, c5'⟩ := blk3 (Y9.out.below h Y9.out.lt)
      obtain ⟨a6, b6, c6'⟩ := blk3 (YP.out.below h YP.out.lt)
      obtain ⟨a7, b7, c7'⟩ := blk3 (YQ.out.below h YQ.out.lt)
      exact ⟨a0, b0, c0', a1, b1, c1', a2, b2, c2', a3, b3, c3', a4, b4, c4', a5, b5, c5', a6, b6, c6', a7, b7, c7'⟩
    have kW := hide ((Below.refl wF.heap.size wF).drew)
    have CW := hide (below_more KK.out (Nat.le_refl _) CF.out)
    obtain ⟨vN, hvN⟩ : ∃ x : Int, ((wrN d.length r u b.length : Nat) : Int) = x := ⟨_, rfl⟩
    clear Y4 Y5 Y6 Y7 Y8 Y9 YP YQ F4 F5 F6 F7 F8 F9 CF hrA hrB RR
    try clear BX4 BX5 BX6 BX7 BX8 KS4 KS5 KS6 KS7 KS8 BP3 BQ3 CC3 BP4 BQ4 CC4 BP5 BQ5 CC5 BP6 BQ6 CC6 BP7 BQ7 CC7 BP8 BQ8 CC8 BP9 BQ9 CC9 R10 R13 R16 R17 R19 R20 R22 R24
    go_region_held3 (fun W => W.cell? ⟨w4.heap.size, 0, none⟩ = some (Value.slice A10 n10 c10) ∧ W.cell? ⟨w4.heap.size, 1, none⟩ = some (.int .i64 r) ∧ W.cell? ⟨w4.heap.size, 2, none⟩ = some (.int .i64 u) ∧ W.cell? ⟨w5.heap.size, 0, none⟩ = some (Value.slice A13 n13 c13) ∧ W.cell? ⟨w5.heap.size, 1, none⟩ = some (.int .i64 r) ∧ W.cell? ⟨w5.heap.size, 2, none⟩ = some (.int .i64 u) ∧ W.cell? ⟨w6.heap.size, 0, none⟩ = some (Value.slice A16 n16 c16) ∧ W.cell? ⟨w6.heap.size, 1, none⟩ = some (.int .i64 r) ∧ W.cell? ⟨w6.heap.size, 2, none⟩ = some (.int .i64 u) ∧ W.cell? ⟨w7.heap.size, 0, none⟩ = some (Value.slice A19 n19 c19) ∧ W.cell? ⟨w7.heap.size, 1, none⟩ = some (.int .i64 r) ∧ W.cell? ⟨w7.heap.size, 2, none⟩ = some (.int .i64 u) ∧ W.cell? ⟨w8.heap.size, 0, none⟩ = some (Value.slice A22 d.length c22) ∧ W.cell? ⟨w8.heap.size, 1, none⟩ = some (.int .i64 (opR d.length r u wr k)) ∧ W.cell? ⟨w8.heap.size, 2, none⟩ = some (.int .i64 (opU d.length r u wr k)) ∧ W.cell? ⟨w9.heap.size, 0, none⟩ = some (Value.slice A24 d.length c24) ∧ W.cell? ⟨w9.heap.size, 1, none⟩ = some (.int .i64 (opR d.length r u wr k)) ∧ W.cell? ⟨w9.heap.size, 2, none⟩ = some (.int .i64 (opU d.length r u wr k)) ∧ W.cell? ⟨w.heap.size, 0, none⟩ = some (Value.slice A d.length c) ∧ W.cell? ⟨w.heap.size, 1, none⟩ = some (.int .i64 r) ∧ W.cell? ⟨w.heap.size, 2, none⟩ = some (.int .i64 u) ∧ W.cell? ⟨gq, 0, none⟩ = some (Value.slice A9 d.length c9) ∧ W.cell? ⟨gq, 1, none⟩ = some (.int .i64 r) ∧ W.cell? ⟨gq, 2, none⟩ = some (.int .i64 u))
      (with_reducible exact allS.out _ kW.out)
      (first
        | (go_at_call 13; with_reducible refine (X1.out _ kW.out).mono ?_
           rintro e wx ⟨rfl, kx⟩
           have kW := hide (below_more kW.out (Nat.le_refl _) kx)
           clear kx)
        | (go_at_call 13; with_reducible refine (X2.out _ kW.out).mono ?_
           rintro e wx ⟨rfl, kx⟩
           have kW := hide (below_more kW.out (Nat.le_refl _) kx)
           clear kx)
        | (go_at_call 13; with_reducible refine (X3.out _ kW.out).mono ?_
           rintro e wx ⟨rfl, kx⟩
           have kW := hide (below_more kW.out (Nat.le_refl _) kx)
           clear kx)
        | (go_at_call 13; with_reducible refine (X4.out _ kW.out).mono ?_
           rintro e wx ⟨rfl, kx⟩
           have kW := hide (below_more kW.out (Nat.le_refl _) kx)
           clear kx)
        | (go_at_call 14; with_reducible refine (X5.out _ kW.out).mono ?_
           rintro e wx ⟨rfl, kx⟩
           have kW := hide (below_more kW.out (Nat.le_refl _) kx)
           clear kx)
        | (go_at_call 15; with_reducible refine (X6.out _ kW.out).mono ?_
           rintro e wx ⟨rfl, kx⟩
           have kW := hide (below_more kW.out (Nat.le_refl _) kx)
           clear kx)
        | (go_at_call 16; with_reducible refine (X7.out _ kW.out).mono ?_
           rintro e wx ⟨rfl, kx⟩
           have kW := hide (below_more kW.out (Nat.le_refl _) kx)
           clear kx)
        | (go_at_call 17; with_reducible refine (X8.out _ kW.out).mono ?_
           rintro e wx ⟨rfl, kx⟩
           have kW := hide (below_more kW.out (Nat.le_refl _) kx)
           clear kx)
        | (go_at_call 18; with_reducible refine (X9.out _ kW.out).mono ?_
           rintro e wx ⟨rfl, kx⟩
           have kW := hide (below_more kW.out (Nat.le_refl _) kx)
           clear kx)
        | (go_at_call 6; with_reducible refine (X10.out _ kW.out).mono ?_
           rintro e wx ⟨rfl, kx⟩
           have kW := hide (below_more kW.out (Nat.le_refl _) kx)
           clear kx))
    all_goals
      go_wp2
      go_ret
      exact ⟨rfl, below_more CW.out (Nat.le_refl _) kW.out⟩
#print axioms does_law
end Go.Proofs.Ytpbhkceinnganaa
