/- DiskGoes' walk. -/
import Derived.Test.YthoaocjeladbkaaLawR
namespace Go.Proofs.Ythoaocjeladbkaa
open Go.RowKit
set_option linter.unusedVariables false

theorem rd_one (W : World) (x : UInt8) : Rd (W.alloc (.cells #[.int .u8 (x.toNat : Int)] 5)) (some ⟨W.heap.size, 0, none⟩) 1 [x] :=
  Reads.of_own (Blk.own (base := 0) (cap := 1) (Blk.new W 5 #[.int .u8 (x.toNat : Int)]) (by omega) (by unfold maxLen; omega) rfl)
theorem new100 (w : World) : Calls Try.prog 15 #[.int .i64 100] w fun e w' => e = .returned (.tuple #[dv none 0 0 none 0 0 100 false (-1), .int .i64 0]) ∧ Below w.heap.size w w' := by
  refine (new_any 100 w).mono ?_
  rintro e w' ⟨rfl, k⟩
  exact ⟨by unfold newR; rw [if_pos (by decide)], k⟩
/-- One more Append, at each stage. -/
theorem app_go (A : Option Addr) (cA : Nat) (B : Option Addr) (k m : Nat) (arm : Int) (dead : Bool) (P : List UInt8) (x : UInt8) (g : Nat) (w : World) (hA : Rd w A 0 []) (hB : Rd w B m P) (hx : Rd w (some ⟨g, 0, none⟩) 1 [x]) (hm : m < 30)
    (ha0 : 0 ≤ arm) (ha1 : arm ≤ 100) :
    (0 < arm → dead = false → Calls Try.prog 9 #[dv A 0 cA B m k 100 dead arm, .slice (some ⟨g, 0, none⟩) 1 1] w (NEnd w 100 false (arm - 1) 0 0 [] (m + 1) (P ++ [x]))) ∧
    (arm = 0 → Calls Try.prog 9 #[dv A 0 cA B m k 100 dead arm, .slice (some ⟨g, 0, none⟩) 1 1] w (NEnd w 100 true 0 42 0 [] m P)) := by
  have hl := hB.len
  have hok : okD 0 m 100 arm = true := by unfold okD; exact decide_eq_true ⟨by omega, by omega, by omega, by omega⟩
  constructor
  · intro h hd
    subst hd
    have hne : (arm == 0) = false := beq_eq_false_iff_ne.2 (by omega)
    have hE : apE 0 m 100 false arm 1 = 0 := by
      unfold apE pwO
      rw [hok, hne]
      simp
      omega
    refine append_n A 0 cA B m k 100 false arm [] P [x] (some ⟨g, 0, none⟩) 1 1 w hA hB hx (by omega) (by omega) (by omega) (by omega) false (arm - 1) 0 (P ++ [x]) (m + 1) ?_ ?_ hE ?_ (by simp [hl])
    · unfold apD pwD; rw [hok, hne]; rfl
    · unfold apA pwA; rw [hok]; simp [h]
    · unfold apP; rw [if_pos (by exact hE)]
  · rintro rfl
    have hE : apE 0 m 100 dead 0 1 = 42 := by
      unfold apE pwO
      rw [hok]
      simp
    refine append_n A 0 cA B m k 100 dead 0 [] P [x] (some ⟨g, 0, none⟩) 1 1 w hA hB hx (by omega) (by omega) (by omega) (by omega) true 0 42 P m ?_ ?_ hE ?_ hl
    · unfold apD pwD; rw [hok]; simp
    · unfold apA pwA; rw [hok]; simp
    · unfold apP; rw [if_neg (by rw [show apE 0 m 100 dead 0 [x].length = 42 from hE]; decide)]

/-- The state behind i calls. -/
def Goes (N i m : Nat) (arm : Int) (dead : Bool) : Prop := m = min i N ∧ arm = (if i ≤ N then (N : Int) - i else 0) ∧ dead = decide (N < i)

set_option maxRecDepth 10000 in
set_option maxHeartbeats 4000000 in
theorem goes_law (n q : Int) (w : World) :
    Calls Try.prog 5 #[.int .i64 n, .int .i64 q] w fun e w' => e = .returned (.bool true) ∧ Below w.heap.size w w' := by
  by_cases c1 : n < 0
  · go_enter Try.func5, Try.ntmps5
    go_wp2_with fail
    refine (heads_any _).mono ?_
    rintro e w2 ⟨rfl, k2⟩
    go_wp2
    go_ret
    exact ⟨rfl, k2⟩
  by_cases c2 : 20 < n
  · go_enter Try.func5, Try.ntmps5
    go_wp2_with fail
    refine (heads_any _).mono ?_
    rintro e w2 ⟨rfl, k2⟩
    go_wp2
    go_ret
    exact ⟨rfl, k2⟩
  by_cases c3 : q < 0
  · go_enter Try.func5, Try.ntmps5
    go_wp2_with fail
    refine (heads_any _).mono ?_
    rintro e w2 ⟨rfl, k2⟩
    go_wp2
    go_ret
    exact ⟨rfl, k2⟩
  by_cases c4 : 40 < q
  · go_enter Try.func5, Try.ntmps5
    go_wp2_with fail
    refine (heads_any _).mono ?_
    rintro e w2 ⟨rfl, k2⟩
    go_wp2
    go_ret
    exact ⟨rfl, k2⟩
  obtain ⟨N, rfl⟩ : ∃ N : Nat, n = N := ⟨n.toNat, by omega⟩
  obtain ⟨C, rfl⟩ : ∃ C : Nat, q = C := ⟨q.toNat, by omega⟩
  have hN : N ≤ 20 := by omega
  have hC : C ≤ 40 := by omega
  go_enter Try.func5, Try.ntmps5
  go_wp2_with fail
  refine (new100 _).mono ?_
  rintro e w1 ⟨rfl, k1⟩
  have K1 := hide k1
  clear k1
  go_wp2_with fail
  refine (arm_n none 0 0 none 0 0 100 false (-1) N [] [] _ Reads.none_ Reads.none_ (by omega) (by omega) N (by unfold arA; rw [show okD 0 0 100 (-1) = true by decide]; simp; omega)).mono ?_
  rintro e w2 ⟨A2, c2', B2, k2, rfl, hA, hB, kk⟩
  have bD := hide ((Blk.new w1 24 #[.slice none 0 0, .slice none 0 0, .int .i64 100, .bool false, .int .i64 (-1)]).below kk (by simp))
  have K2 := hide (below_more (K1.out.alloc K1.out.size (dC none 0 0 none 0 0 100 false (-1))) (Nat.le_refl _) kk)
  have RA := hide (hA.more (C := w.heap.size) (by have := K1.out.size; simp; omega))
  have RB := hide (hB.more (C := w.heap.size) (by have := K1.out.size; simp; omega))
  have zz := K1.out.size
  have zl := bD.out.lt
  clear hA hB kk
  generalize w1.heap.size = g5 at *
  obtain ⟨⟨x0, x1, x2, x3, x4⟩, y0, y1, y2, y3, y4⟩ := bD.out.five
  go_wp2
  go_loopw [7] (fun i wr => ∃ j : Nat, j ≤ C ∧ i = .int .i64 j ∧ ∃ (A : Option Addr) (cA : Nat) (B : Option Addr) (k m : Nat) (P : List UInt8) (arm : Int) (dead : Bool), Goes N j m arm dead ∧ Blk wr g5 24 #[.slice A 0 cA, .slice B m k, .int .i64 100, .bool dead, .int .i64 arm] ∧ Rc w.heap.size wr A 0 cA [] ∧ Rc w.heap.size wr B m k P ∧ Below w.heap.size w wr) (fun i _ => C - (intOf i).toNat)
  case atStart =>
    refine ⟨0, by omega, rfl, A2, c2', B2, k2, 0, [], N, false, ⟨by omega, by simp, by simp⟩, ?_, ?_, ?_, ?_⟩
    · exact bD.out.set5 _ _ _ _ _
    · exact RA.out.set5 bD.out _ _ _ _ _
    · exact RB.out.set5 bD.out _ _ _ _ _
    · exact Below.set5_ K2.out zz _ _ _ _ _
  case round =>
    clear bD RA RB x0 x1 x2 x3 x4 y0 y1 y2 y3 y4 K2 zl
    obtain ⟨j, hj, rfl, A, cA, B, k, m, P, arm, dead, hg, bD', RA', RB', KR'⟩ := hrel
    have bD := hide bD'
    have RA := hide RA'
    have RB := hide RB'
    have KR := hide KR'
    have zl := bD.out.lt
    clear bD' RA' RB' KR'
    obtain ⟨⟨x0, x1, x2, x3, x4⟩, y0, y1, y2, y3, y4⟩ := bD.out.five
    by_cases hlt : j < C
    · have hw : IntKind.u8.wrap (j : Int) = j := by unfold IntKind.wrap; simp [IntKind.signed, IntKind.bits]; omega
      have HX : Hid (((UInt8.ofNat j).toNat : Int) = j) := hide (by rw [UInt8.toNat_ofNat']; omega)
      by_cases hlt2 : j < N
      · obtain ⟨rfl, rfl, rfl⟩ : j = m ∧ (N : Int) - j = arm ∧ false = dead := ⟨by have := hg.1; omega, by have := hg.2.1; rw [if_pos (by omega)] at this; exact this.symm, by rw [hg.2.2]; exact (decide_eq_false (by omega)).symm⟩
        have hlN : (j : Int) < N := by omega
        clear hg hlt2
        go_wp2_with fail
        refine ((app_go A cA B k j ((N : Int) - j) false P (UInt8.ofNat j) wr.heap.size _ ((RA.out.alloc _).rd) ((RB.out.alloc _).rd) ?h1 (by omega) (by omega) (by omega)).1 (by omega) rfl).mono ?_
        case h1 =>
          have h := rd_one wr (UInt8.ofNat j)
          rw [HX.out] at h
          exact h
        rintro e w3 ⟨A3, c3', B3, k3, rfl, hA3, hB3, kk⟩
        have bD3 := hide ((bD.out.alloc (.cells #[.int .u8 (j : Int)] 5)).below kk (bD.out.alloc _).lt)
        have KR3 := hide (below_more (KR.out.alloc KR.out.size (.cells #[.int .u8 (j : Int)] 5)) (Nat.le_refl _) kk)
        have RA3 := hide (hA3.more (C := w.heap.size) (by have := KR.out.size; simp; omega))
        have RB3 := hide (hB3.more (C := w.heap.size) (by have := KR.out.size; simp; omega))
        clear hA3 hB3 kk x0 x1 x2 x3 x4 y0 y1 y2 y3 y4 zl
        have zl := bD3.out.lt
        obtain ⟨⟨x0, x1, x2, x3, x4⟩, y0, y1, y2, y3, y4⟩ := bD3.out.five
        go_wp2
        go_roundw
        case rel =>
          have bDs := (bD3.out.set5 (.slice A3 0 c3') (.slice B3 (j + 1) k3) (.int .i64 100) (.bool false) (.int .i64 ((N : Int) - j - 1))).alloc (dC A3 0 c3' B3 (j + 1) k3 100 false ((N : Int) - j - 1))
          have RAs := (RA3.out.set5 bD3.out (.slice A3 0 c3') (.slice B3 (j + 1) k3) (.int .i64 100) (.bool false) (.int .i64 ((N : Int) - j - 1))).alloc (dC A3 0 c3' B3 (j + 1) k3 100 false ((N : Int) - j - 1))
          have RBs := (RB3.out.set5 bD3.out (.slice A3 0 c3') (.slice B3 (j + 1) k3) (.int .i64 100) (.bool false) (.int .i64 ((N : Int) - j - 1))).alloc (dC A3 0 c3' B3 (j + 1) k3 100 false ((N : Int) - j - 1))
          have KRs := (Below.set5_ KR3.out zz (.slice A3 0 c3') (.slice B3 (j + 1) k3) (.int .i64 100) (.bool false) (.int .i64 ((N : Int) - j - 1))).alloc (Below.set5_ KR3.out zz (.slice A3 0 c3') (.slice B3 (j + 1) k3) (.int .i64 100) (.bool false) (.int .i64 ((N : Int) - j - 1))).size (dC A3 0 c3' B3 (j + 1) k3 100 false ((N : Int) - j - 1))
          exact ⟨j + 1, by omega, by go_num, A3, c3', B3, k3, j + 1, _, (N : Int) - j - 1, false, ⟨by omega, by rw [if_pos (by omega)]; omega, by simp; omega⟩, bDs, RAs, RBs, KRs⟩
        case measure => simp [intOf]; omega
      · obtain ⟨rfl, rfl⟩ : N = m ∧ (0 : Int) = arm := ⟨by have := hg.1; omega, by have := hg.2.1; split at this <;> omega⟩
        have hlN : (N : Int) ≤ j := by omega
        clear hg hlt2
        go_wp2_with fail
        refine ((app_go A cA B k N 0 dead P (UInt8.ofNat j) wr.heap.size _ ((RA.out.alloc _).rd) ((RB.out.alloc _).rd) ?h2 (by omega) (by omega) (by omega)).2 rfl).mono ?_
        case h2 =>
          have h := rd_one wr (UInt8.ofNat j)
          rw [HX.out] at h
          exact h
        rintro e w3 ⟨A3, c3', B3, k3, rfl, hA3, hB3, kk⟩
        have bD3 := hide ((bD.out.alloc (.cells #[.int .u8 (j : Int)] 5)).below kk (bD.out.alloc _).lt)
        have KR3 := hide (below_more (KR.out.alloc KR.out.size (.cells #[.int .u8 (j : Int)] 5)) (Nat.le_refl _) kk)
        have RA3 := hide (hA3.more (C := w.heap.size) (by have := KR.out.size; simp; omega))
        have RB3 := hide (hB3.more (C := w.heap.size) (by have := KR.out.size; simp; omega))
        clear hA3 hB3 kk x0 x1 x2 x3 x4 y0 y1 y2 y3 y4 zl
        have zl := bD3.out.lt
        obtain ⟨⟨x0, x1, x2, x3, x4⟩, y0, y1, y2, y3, y4⟩ := bD3.out.five
        go_wp2
        go_roundw
        case rel =>
          have bDs := (bD3.out.set5 (.slice A3 0 c3') (.slice B3 N k3) (.int .i64 100) (.bool true) (.int .i64 0)).alloc (dC A3 0 c3' B3 N k3 100 true 0)
          have RAs := (RA3.out.set5 bD3.out (.slice A3 0 c3') (.slice B3 N k3) (.int .i64 100) (.bool true) (.int .i64 0)).alloc (dC A3 0 c3' B3 N k3 100 true 0)
          have RBs := (RB3.out.set5 bD3.out (.slice A3 0 c3') (.slice B3 N k3) (.int .i64 100) (.bool true) (.int .i64 0)).alloc (dC A3 0 c3' B3 N k3 100 true 0)
          have KRs := (Below.set5_ KR3.out zz (.slice A3 0 c3') (.slice B3 N k3) (.int .i64 100) (.bool true) (.int .i64 0)).alloc (Below.set5_ KR3.out zz (.slice A3 0 c3') (.slice B3 N k3) (.int .i64 100) (.bool true) (.int .i64 0)).size (dC A3 0 c3' B3 N k3 100 true 0)
          exact ⟨j + 1, by omega, by go_num, A3, c3', B3, k3, N, _, 0, true, ⟨by omega, by split <;> omega, by simp; omega⟩, bDs, RAs, RBs, KRs⟩
        case measure => simp [intOf]; omega
    · obtain rfl : j = C := by omega
      clear hlt hj
      have hlen : Hid (m = min j N) := hide hg.1
      have hdd : Hid (dead = decide (N < j)) := hide hg.2.2
      clear hg
      by_cases hlt2 : N < j
      · obtain rfl : m = N := by have := hlen.out; omega
        obtain rfl : dead = true := by rw [hdd.out]; exact decide_eq_true hlt2
        have hl3 : (m : Int) < j := by omega
        go_wp2_with fail
        refine (heads_any _).mono ?_
        rintro e w4 ⟨rfl, k4⟩
        have K4 := hide (below_more KR.out (Nat.le_refl _) k4)
        clear k4
        go_wp2
        go_ret
        exact ⟨rfl, K4.out⟩
      obtain rfl : m = j := by have := hlen.out; omega
      obtain rfl : dead = false := by rw [hdd.out]; exact decide_eq_false hlt2
      by_cases heq : m = N
      · subst heq
        clear hlt2
        go_wp2_with fail
        refine (heads_any _).mono ?_
        rintro e w4 ⟨rfl, k4⟩
        have K4 := hide (below_more KR.out (Nat.le_refl _) k4)
        clear k4
        go_wp2
        go_ret
        exact ⟨rfl, K4.out⟩
      · have hl3 : (m : Int) < N := by omega
        have hl4 : decide (N < m) = false := decide_eq_false (by omega)
        have hl5 : ¬ (N : Int) < m := by omega
        clear heq hlt2
        go_wp2_with fail
        refine (heads_any _).mono ?_
        rintro e w4 ⟨rfl, k4⟩
        have K4 := hide (below_more KR.out (Nat.le_refl _) k4)
        clear k4
        go_wp2
        go_ret
        exact ⟨rfl, K4.out⟩
#print axioms goes_law
end Go.Proofs.Ythoaocjeladbkaa
