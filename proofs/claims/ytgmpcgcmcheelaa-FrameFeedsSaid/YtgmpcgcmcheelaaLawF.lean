/- FrameFeeds' walk. -/
import Derived.Test.YtgmpcgcmcheelaaRefH
namespace Go.Proofs.Ytgmpcgcmcheelaa
open Go.RowKit
set_option linter.unusedVariables false

def putB (b : Bs) : Bs := if b.length < 1 ∨ 4096 < b.length then [] else be 2 b.length ++ b
def eP (b : Bs) : Int := if b.length < 1 ∨ 4096 < b.length then 2 else 0
theorem put_any (A : Option Addr) (n c : Nat) (b : Bs) (w : World) (hr : Rd w A n b) (np : Nat) (E : Int) (h1 : (putB b).length = np) (h2 : eP b = E) :
    Calls Try.prog 10 #[.slice A n c] w fun e w' => ∃ J j, e = .returned (.tuple #[.slice J np j, .int .i64 E]) ∧ Rd w' J np (putB b) ∧ Below w.heap.size w w' := by
  have hl := hr.len
  subst h1 h2
  by_cases h : n < 1 ∨ 4096 < n
  · refine (fput_no A n c w h).mono ?_
    rintro e w' ⟨rfl, k⟩
    rw [← hl] at h
    have e1 : putB b = [] := if_pos h
    have e2 : eP b = 2 := if_pos h
    rw [e1, e2]
    exact ⟨none, 0, rfl, Reads.none_, k⟩
  · refine (fput_yes A n c b w hr (by omega) (by omega)).mono ?_
    rintro e w' ⟨J, j, rfl, o, k⟩
    rw [← hl] at h o ⊢
    have e1 : putB b = be 2 b.length ++ b := if_neg h
    have e2 : eP b = 0 := if_neg h
    rw [e1, e2, List.length_append, be_length]
    exact ⟨J, j, rfl, Reads.of_own o, k⟩
theorem rput_any (A : Option Addr) (n c : Nat) (b : Bs) (w : World) (hr : Rd w A n b) (np : Nat) (E : Int) (h1 : (putB b).length = np) (h2 : eP b = E) :
    Calls Try.prog 11 #[.slice A n c] w fun e w' => ∃ J j, e = .returned (.tuple #[.slice J np j, .int .i64 E]) ∧ Rd w' J np (putB b) ∧ Below w.heap.size w w' := by
  have hl := hr.len
  subst h1 h2
  by_cases h : n < 1 ∨ 4096 < n
  · refine (rfput_no A n c w h).mono ?_
    rintro e w' ⟨rfl, k⟩
    rw [← hl] at h
    have e1 : putB b = [] := if_pos h
    have e2 : eP b = 2 := if_pos h
    rw [e1, e2]
    exact ⟨none, 0, rfl, Reads.none_, k⟩
  · refine (rfput_yes A n c b w hr (by omega) (by omega)).mono ?_
    rintro e w' ⟨J, j, rfl, o, k⟩
    rw [← hl] at h o ⊢
    have e1 : putB b = be 2 b.length ++ b := if_neg h
    have e2 : eP b = 0 := if_neg h
    rw [e1, e2, List.length_append, be_length]
    exact ⟨J, j, rfl, Reads.of_own o, k⟩
theorem all_n (A : Option Addr) (n c : Nat) (b : Bs) (w : World) (hr : Rd w A n b) (hn : n ≤ 50000) (m : Nat) (E : Int) (h1 : (allB b).length = m) (h2 : (readD b).2.2 = E) :
    Calls Try.prog 12 #[.slice A n c] w fun e w' => ∃ Bo cb, e = .returned (.tuple #[.slice Bo m cb, .int .i64 E]) ∧ RowsP w' Bo m (allB b) ∧ Below w.heap.size w w' := by
  refine (all_any A n c b w hr hn).mono ?_
  rintro e w' ⟨Bo, m', cb, rfl, q, k⟩
  obtain rfl : m' = m := by rw [← h1]; exact q.len.symm
  subst h2
  exact ⟨Bo, cb, rfl, q, k⟩
theorem rall_n (A : Option Addr) (n c : Nat) (b : Bs) (w : World) (hr : Rd w A n b) (hc : n ≤ c) (hn : n ≤ 50000) (m : Nat) (E : Int) (h1 : (allB b).length = m) (h2 : (readD b).2.2 = E) :
    Calls Try.prog 13 #[.slice A n c] w fun e w' => ∃ Bo cb, e = .returned (.tuple #[.slice Bo m cb, .int .i64 E]) ∧ RowsP w' Bo m (allB b) ∧ Below w.heap.size w w' := by
  refine (rall_any A n c b w hr hc hn).mono ?_
  rintro e w' ⟨Bo, m', cb, rfl, q, k⟩
  obtain rfl : m' = m := by rw [← h1]; exact q.len.symm
  subst h2
  exact ⟨Bo, cb, rfl, q, k⟩
theorem rfeed_n (A : Option Addr) (n c : Nat) (dead : Bool) (h : Bs) (B : Option Addr) (m k : Nat) (b : Bs) (w : World) (hr : Rd w A n h) (hb : Rd w B m b) (hn : n ≤ 20000) (hm : m ≤ 20000)
    (h' : Bs) (d' : Bool) (bs' : List Bs) (E' : Int) (n' m' : Nat) (e : feedR h dead b = (h', d', bs', E')) (e1 : h'.length = n') (e2 : bs'.length = m') :
    Calls Try.prog 9 #[stV A n c dead, .slice B m k] w (NFeed w h' d' bs' E' n' m') := by
  refine (rfeed_any A n c dead h B m k b w hr hb hn hm).mono ?_
  rintro x w' ⟨A1, n1, c1, Bo, m1, cb, rfl, h1, h2, h3⟩
  rw [e] at h1 h2 ⊢
  obtain rfl : n1 = n' := by rw [← e1]; exact h2.len.symm
  obtain rfl : m1 = m' := by rw [← e2]; exact h1.len.symm
  exact ⟨A1, c1, Bo, cb, rfl, h1, h2, h3⟩
theorem same_b (A B : Option Addr) (n c d : Nat) (a : Bs) (w : World) (ha : Rd w A n a) (hb : Rd w B n a) :
    Calls Try.prog 16 #[.slice A n c, .slice B n d] w fun e w' => e = .returned (.bool true) ∧ Below w.heap.size w w' := by
  refine (same_n A B n n c d a a w ha hb rfl).mono ?_
  rintro e w' ⟨rfl, rfl⟩
  exact ⟨rfl, Below.refl _ _⟩
theorem rcheck_n (A : Option Addr) (n c : Nat) (dead : Bool) (h : Bs) (w : World) (hr : Rd w A n h) (hn : n ≤ 50000) (b : Bool) (e : okS h dead = b) :
    Calls Try.prog 18 #[stV A n c dead] w fun e w' => e = .returned (.bool b) ∧ Below w.heap.size w w' := by
  subst e; exact rcheck_any A n c dead h w hr hn

set_option maxRecDepth 10000 in
set_option maxHeartbeats 8000000 in
theorem feeds_law (A : Option Addr) (n c : Nat) (dead : Bool) (h : Bs) (B : Option Addr) (m k : Nat) (b : Bs) (w : World) (hh : Rd w A n h) (hb : Rd w B m b) (hmk : m ≤ k) :
    Calls Try.prog 3 #[stV A n c dead, .slice B m k] w fun e w' => e = .returned (.bool true) ∧ Below w.heap.size w w' := by
  have K0 := hide (Below.refl w.heap.size w)
  have HA := hide hh
  have HB := hide hb
  have lh := hide hh.len
  have lb := hide hb.len
  clear hh hb
  by_cases h1 : 6000 < n
  · have g1 : (6000 : Int) < n := by omega
    go_enter Try.func3, Try.ntmps3
    go_wp2_with fail
    refine (heads_any _).mono ?_
    rintro e wh ⟨rfl, kh⟩
    have SH : Hid (Below w.heap.size w wh) := hide (below_more (h := by ((repeat (first | with_reducible exact Below.refl _ _ | with_reducible refine Below.alloc ?_ ?_ _)); all_goals (first | exact Nat.le_refl _ | (simp; done) | (simp; omega)))) (hB := Nat.le_refl _) (k := kh))
    have KH := hide (below_more K0.out (Nat.le_refl _) SH.out)
    clear kh
    go_wp2
    go_ret
    exact ⟨rfl, KH.out⟩
  have g1 : ¬ (6000 : Int) < n := by omega
  by_cases h2 : 6000 < m
  · have g2 : (6000 : Int) < m := by omega
    go_enter Try.func3, Try.ntmps3
    go_wp2_with fail
    refine (heads_any _).mono ?_
    rintro e wh ⟨rfl, kh⟩
    have SH : Hid (Below w.heap.size w wh) := hide (below_more (h := by ((repeat (first | with_reducible exact Below.refl _ _ | with_reducible refine Below.alloc ?_ ?_ _)); all_goals (first | exact Nat.le_refl _ | (simp; done) | (simp; omega)))) (hB := Nat.le_refl _) (k := kh))
    have KH := hide (below_more K0.out (Nat.le_refl _) SH.out)
    clear kh
    go_wp2
    go_ret
    exact ⟨rfl, KH.out⟩
  have g2 : ¬ (6000 : Int) < m := by omega
  have fl0 := feed_len h dead b
  rw [lh.out, lb.out] at fl0
  obtain ⟨r0, hr0⟩ : ∃ r, feedR h dead b = r := ⟨_, rfl⟩
  rw [hr0] at fl0
  obtain ⟨h0, d0, bs0, E0⟩ := r0
  obtain ⟨n0, hn0⟩ : ∃ x, h0.length = x := ⟨_, rfl⟩
  obtain ⟨m0, hm0⟩ : ∃ x, bs0.length = x := ⟨_, rfl⟩
  have l0 : n0 ≤ 12000 ∧ m0 ≤ 12000 := by rw [← hn0, ← hm0]; exact ⟨by have : h0.length ≤ n + m := fl0.1; omega, by have : bs0.length ≤ n + m := fl0.2; omega⟩
  have l0a := l0.1
  have l0b := l0.2
  obtain ⟨np, hnp⟩ : ∃ x, (putB b).length = x := ⟨_, rfl⟩
  obtain ⟨Ep, hEp⟩ : ∃ x, eP b = x := ⟨_, rfl⟩
  obtain ⟨ma, hma⟩ : ∃ x, (allB b).length = x := ⟨_, rfl⟩
  obtain ⟨Ea, hEa⟩ : ∃ x, (readD b).2.2 = x := ⟨_, rfl⟩
  obtain ⟨ok, hok⟩ : ∃ x, okS h dead = x := ⟨_, rfl⟩
  have lma : ma ≤ 6000 := by
    rw [← hma]
    have := read_len _ b (Nat.le_refl _)
    have h3 := lb.out
    unfold allB
    split
    · omega
    · exact Nat.zero_le _
  have H0 := hide hr0
  have N0 := hide hn0
  have M0 := hide hm0
  have NP := hide hnp
  have EP := hide hEp
  have MA := hide hma
  have EA := hide hEa
  have OK := hide hok
  clear hr0 hn0 hm0 fl0 l0 hnp hEp hma hEa hok
  go_enter Try.func3, Try.ntmps3
  go_wp2_with fail
  refine (feed_w A n c dead h B m k b _ (Rd.up HA.out (by ((repeat (first | with_reducible exact Below.refl _ _ | with_reducible refine Below.alloc ?_ ?_ _)); all_goals (first | exact Nat.le_refl _ | (simp; done) | (simp; omega))))) (Rd.up HB.out (by ((repeat (first | with_reducible exact Below.refl _ _ | with_reducible refine Below.alloc ?_ ?_ _)); all_goals (first | exact Nat.le_refl _ | (simp; done) | (simp; omega))))) (by omega) (by omega) h0 d0 bs0 E0 n0 m0 H0.out N0.out M0.out).mono ?_
  rintro e w1 ⟨A0, c0, B0, e0, rfl, q0, p0, k1⟩
  have K1 : Hid (Below w.heap.size w w1) := hide (below_more (h := by ((repeat (first | with_reducible exact Below.refl _ _ | with_reducible refine Below.alloc ?_ ?_ _)); all_goals (first | exact Nat.le_refl _ | (simp; done) | (simp; omega)))) (hB := Nat.le_refl _) (k := k1))
  have BP : Hid (Blk w1 w.heap.size 24 #[.slice A n c, .bool dead]) := hide (Blk.below (h := Blk.new w 24 #[.slice A n c, .bool dead]) (hb := k1) (Blk.lt (Blk.new w 24 #[.slice A n c, .bool dead])))
  have R1 := hide q0.rowsP
  have F1 := hide p0
  have zb := K1.out.size
  clear k1 q0 p0
  obtain ⟨x0, x1, y0, y1⟩ := BP.out.two
  have zp := BP.out.lt
  go_wp2_with fail
  refine (rfeed_n A n c dead h B m k b _ (Rd.up (Rd.up HA.out K1.out) (by ((repeat (first | with_reducible exact Below.refl _ _ | with_reducible refine Below.alloc ?_ ?_ _)); all_goals (first | exact Nat.le_refl _ | (simp; done) | (simp; omega))))) (Rd.up (Rd.up HB.out K1.out) (by ((repeat (first | with_reducible exact Below.refl _ _ | with_reducible refine Below.alloc ?_ ?_ _)); all_goals (first | exact Nat.le_refl _ | (simp; done) | (simp; omega))))) (by omega) (by omega) h0 d0 bs0 E0 n0 m0 H0.out N0.out M0.out).mono ?_
  rintro e w2 ⟨A2, c2, B2, e2, rfl, q2, p2, k2⟩
  have S2 : Hid (Below w1.heap.size w1 w2) := hide (below_more (h := by ((repeat (first | with_reducible exact Below.refl _ _ | with_reducible refine Below.alloc ?_ ?_ _)); all_goals (first | exact Nat.le_refl _ | (simp; done) | (simp; omega)))) (hB := Nat.le_refl _) (k := k2))
  have BX : Hid (Blk w2 w1.heap.size 24 #[.slice A0 n0 c0, .bool d0]) := hide (Blk.below (h := Blk.new w1 24 #[.slice A0 n0 c0, .bool d0]) (hb := k2) (Blk.lt (Blk.new w1 24 #[.slice A0 n0 c0, .bool d0])))
  have BP2 := hide (BP.out.below S2.out BP.out.lt)
  have K2 := hide (below_more K1.out (Nat.le_refl _) S2.out)
  have R12 := hide (R1.out.below S2.out)
  have F12 := hide (Rd.up F1.out S2.out)
  have R2 := hide q2
  have F2 := hide p2
  clear k2 q2 p2 x0 x1 y0 y1 zp BP R1 F1
  go_wp2_with fail
  refine (put_any B m k b _ (Rd.up (Rd.up HB.out K2.out) (by ((repeat (first | with_reducible exact Below.refl _ _ | with_reducible refine Below.alloc ?_ ?_ _)); all_goals (first | exact Nat.le_refl _ | (simp; done) | (simp; omega))))) np Ep NP.out EP.out).mono ?_
  rintro e w3 ⟨J3, j3, rfl, p3, k3⟩
  have S3 : Hid (Below w2.heap.size w2 w3) := hide (below_more (h := by ((repeat (first | with_reducible exact Below.refl _ _ | with_reducible refine Below.alloc ?_ ?_ _)); all_goals (first | exact Nat.le_refl _ | (simp; done) | (simp; omega)))) (hB := Nat.le_refl _) (k := k3))
  have BY : Hid (Blk w3 w2.heap.size 24 #[.slice A2 n0 c2, .bool d0]) := hide (Blk.below (h := Blk.new w2 24 #[.slice A2 n0 c2, .bool d0]) (hb := k3) (Blk.lt (Blk.new w2 24 #[.slice A2 n0 c2, .bool d0])))
  have K3 := hide (below_more K2.out (Nat.le_refl _) S3.out)
  have P3 := hide p3
  clear k3 p3
  go_wp2_with fail
  refine (rput_any B m k b _ (Rd.up HB.out K3.out) np Ep NP.out EP.out).mono ?_
  rintro e w4 ⟨J4, j4, rfl, p4, k4⟩
  have K4 := hide (below_more K3.out (Nat.le_refl _) k4)
  have S4 := hide (below_more S3.out (Nat.le_refl _) k4)
  have BY4 := hide (BY.out.below k4 BY.out.lt)
  have P34 := hide (Rd.up P3.out k4)
  have P4 := hide p4
  clear k4 p4 BY P3
  go_wp2_with fail
  refine (all_n B m k b _ (Rd.up HB.out K4.out) (by omega) ma Ea MA.out EA.out).mono ?_
  rintro e w5 ⟨B5, c5, rfl, q5, k5⟩
  have K5 := hide (below_more K4.out (Nat.le_refl _) k5)
  have S5 := hide (below_more S4.out (Nat.le_refl _) k5)
  have BY5 := hide (BY4.out.below k5 BY4.out.lt)
  have P35 := hide (Rd.up P34.out k5)
  have P45 := hide (Rd.up P4.out k5)
  have R5 := hide q5
  clear k5 q5 BY4 P34 P4
  go_wp2_with fail
  refine (rall_n B m k b _ (Rd.up HB.out K5.out) hmk (by omega) ma Ea MA.out EA.out).mono ?_
  rintro e w6 ⟨B6, c6, rfl, q6, k6⟩
  have K6 := hide (below_more K5.out (Nat.le_refl _) k6)
  have S6 := hide (below_more S5.out (Nat.le_refl _) k6)
  have BY6 := hide (BY5.out.below k6 BY5.out.lt)
  have P36 := hide (Rd.up P35.out k6)
  have P46 := hide (Rd.up P45.out k6)
  have R56 := hide (R5.out.below k6)
  have R6 := hide q6
  have BX6 := hide (BX.out.below S6.out BX.out.lt)
  have BP6 := hide (BP2.out.below S6.out BP2.out.lt)
  have R16 := hide (R12.out.below S6.out)
  have F16 := hide (Rd.up F12.out S6.out)
  have R26 := hide (R2.out.below S6.out)
  have F26 := hide (Rd.up F2.out S6.out)
  have HA6 := hide (Rd.up HA.out K6.out)
  clear k6 q6 BY5 P35 P45 R5 BX BP2 R12 F12 R2 F2 S2 S3 S4 S5 K1 K2 K3 K4 K5 HA HB H0 zb
  generalize w1.heap.size = gx at BX6
  generalize w2.heap.size = gy at BY6 S6
  clear S6
  go_upto_region 9 with (fail)
  have allS : Hid (∀ V, Below w6.heap.size w6 V → (V.cell? ⟨w.heap.size, 0, none⟩ = some (.slice A n c) ∧ V.cell? ⟨w.heap.size, 1, none⟩ = some (.bool dead)) ∧ (V.cell? ⟨gx, 0, none⟩ = some (.slice A0 n0 c0) ∧ V.cell? ⟨gx, 1, none⟩ = some (.bool d0)) ∧ (V.cell? ⟨gy, 0, none⟩ = some (.slice A2 n0 c2) ∧ V.cell? ⟨gy, 1, none⟩ = some (.bool d0))) :=
    hide fun V hV => ⟨blk2a (BP6.out.below hV BP6.out.lt), blk2a (BX6.out.below hV BX6.out.lt), blk2a (BY6.out.below hV BY6.out.lt)⟩
  have X14 := hide (fun V (hV : Below w6.heap.size w6 V) => stsame_any A0 n0 c0 A2 n0 c2 d0 h0 V (Rd.up F16.out hV) (Rd.up F26.out hV))
  have X15 := hide (fun V (hV : Below w6.heap.size w6 V) => rows_any B0 m0 e0 B2 e2 bs0 V (R16.out.below hV) (R26.out.below hV) (by omega))
  have X16 := hide (fun V (hV : Below w6.heap.size w6 V) => same_b J3 J4 np j3 j4 (putB b) V (Rd.up P36.out hV) (Rd.up P46.out hV))
  have X15b := hide (fun V (hV : Below w6.heap.size w6 V) => rows_any B5 ma c5 B6 c6 (allB b) V (R56.out.below hV) (R6.out.below hV) (by omega))
  have X17 := hide (fun V (hV : Below w6.heap.size w6 V) => check_n A n c dead h V (Rd.up HA6.out hV) (by omega) ok OK.out)
  have X18 := hide (fun V (hV : Below w6.heap.size w6 V) => rcheck_n A n c dead h V (Rd.up HA6.out hV) (by omega) ok OK.out)
  have X7 := hide (fun V (hV : Below w6.heap.size w6 V) => heads_any V)
  have hE1 : (E0 == E0) = true := by simp
  have hE2 : (Ep == Ep) = true := by simp
  have hE3 : (Ea == Ea) = true := by simp
  have hE4 : (ok == ok) = true := by simp
  have kW := hide (Below.refl w6.heap.size w6)
  clear BX6 BP6 BY6 R16 F16 R26 F26 P36 P46 R56 R6 HA6 OK N0 M0 NP EP MA EA lh lb
  go_region_held3 (fun V => (V.cell? ⟨w.heap.size, 0, none⟩ = some (.slice A n c) ∧ V.cell? ⟨w.heap.size, 1, none⟩ = some (.bool dead)) ∧ (V.cell? ⟨gx, 0, none⟩ = some (.slice A0 n0 c0) ∧ V.cell? ⟨gx, 1, none⟩ = some (.bool d0)) ∧ (V.cell? ⟨gy, 0, none⟩ = some (.slice A2 n0 c2) ∧ V.cell? ⟨gy, 1, none⟩ = some (.bool d0)))
    (first | with_reducible exact allS.out _ (Below.drew kW.out) | with_reducible exact allS.out _ kW.out)
    (first
      | (go_at_call 14; with_reducible refine (X14.out _ (Below.drew kW.out)).mono ?_
         rintro e wx ⟨rfl, kx⟩
         have kX := hide (below_more (Below.drew kW.out) (Nat.le_refl _) kx)
         clear kW
         have kW := hide kX.out
         clear kx kX)
      | (go_at_call 14; with_reducible refine (X14.out _ kW.out).mono ?_
         rintro e wx ⟨rfl, kx⟩
         have kX := hide (below_more kW.out (Nat.le_refl _) kx)
         clear kW
         have kW := hide kX.out
         clear kx kX)
      | (go_at_call 15; with_reducible refine (X15.out _ (Below.drew kW.out)).mono ?_
         rintro e wx ⟨rfl, kx⟩
         have kX := hide (below_more (Below.drew kW.out) (Nat.le_refl _) kx)
         clear kW
         have kW := hide kX.out
         clear kx kX)
      | (go_at_call 15; with_reducible refine (X15.out _ kW.out).mono ?_
         rintro e wx ⟨rfl, kx⟩
         have kX := hide (below_more kW.out (Nat.le_refl _) kx)
         clear kW
         have kW := hide kX.out
         clear kx kX)
      | (go_at_call 16; with_reducible refine (X16.out _ (Below.drew kW.out)).mono ?_
         rintro e wx ⟨rfl, kx⟩
         have kX := hide (below_more (Below.drew kW.out) (Nat.le_refl _) kx)
         clear kW
         have kW := hide kX.out
         clear kx kX)
      | (go_at_call 16; with_reducible refine (X16.out _ kW.out).mono ?_
         rintro e wx ⟨rfl, kx⟩
         have kX := hide (below_more kW.out (Nat.le_refl _) kx)
         clear kW
         have kW := hide kX.out
         clear kx kX)
      | (go_at_call 15; with_reducible refine (X15b.out _ (Below.drew kW.out)).mono ?_
         rintro e wx ⟨rfl, kx⟩
         have kX := hide (below_more (Below.drew kW.out) (Nat.le_refl _) kx)
         clear kW
         have kW := hide kX.out
         clear kx kX)
      | (go_at_call 15; with_reducible refine (X15b.out _ kW.out).mono ?_
         rintro e wx ⟨rfl, kx⟩
         have kX := hide (below_more kW.out (Nat.le_refl _) kx)
         clear kW
         have kW := hide kX.out
         clear kx kX)
      | (go_at_call 17; with_reducible refine (X17.out _ (Below.drew kW.out)).mono ?_
         rintro e wx ⟨rfl, kx⟩
         have kX := hide (below_more (Below.drew kW.out) (Nat.le_refl _) kx)
         clear kW
         have kW := hide kX.out
         clear kx kX)
      | (go_at_call 17; with_reducible refine (X17.out _ kW.out).mono ?_
         rintro e wx ⟨rfl, kx⟩
         have kX := hide (below_more kW.out (Nat.le_refl _) kx)
         clear kW
         have kW := hide kX.out
         clear kx kX)
      | (go_at_call 18; with_reducible refine (X18.out _ (Below.drew kW.out)).mono ?_
         rintro e wx ⟨rfl, kx⟩
         have kX := hide (below_more (Below.drew kW.out) (Nat.le_refl _) kx)
         clear kW
         have kW := hide kX.out
         clear kx kX)
      | (go_at_call 18; with_reducible refine (X18.out _ kW.out).mono ?_
         rintro e wx ⟨rfl, kx⟩
         have kX := hide (below_more kW.out (Nat.le_refl _) kx)
         clear kW
         have kW := hide kX.out
         clear kx kX)
      | (go_at_call 7; with_reducible refine (X7.out _ (Below.drew kW.out)).mono ?_
         rintro e wx ⟨rfl, kx⟩
         have kX := hide (below_more (Below.drew kW.out) (Nat.le_refl _) kx)
         clear kW
         have kW := hide kX.out
         clear kx kX)
      | (go_at_call 7; with_reducible refine (X7.out _ kW.out).mono ?_
         rintro e wx ⟨rfl, kx⟩
         have kX := hide (below_more kW.out (Nat.le_refl _) kx)
         clear kW
         have kW := hide kX.out
         clear kx kX))
  all_goals
    go_wp2
    go_ret
    exact ⟨rfl, below_more K6.out (Nat.le_refl _) kW.out⟩
end Go.Proofs.Ytgmpcgcmcheelaa
