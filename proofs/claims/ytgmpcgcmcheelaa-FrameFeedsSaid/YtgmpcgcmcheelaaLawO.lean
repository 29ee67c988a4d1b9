/- FrameOver's walk. -/
import Derived.Test.YtgmpcgcmcheelaaHeadF
namespace Go.Proofs.Ytgmpcgcmcheelaa
open Go.RowKit
set_option linter.unusedVariables false

theorem ok_nil (d : Bool) : okS [] d = true := by cases d <;> rfl
theorem feed_zero (b : Bs) : feedR [] false b = if (readD b).2.2 = 5 then ([], true, (readD b).1, 5) else ((readD b).2.1, false, (readD b).1, 0) := by
  unfold feedR; rw [ok_nil, if_neg (by decide), if_neg (by decide)]; rfl
theorem feed_dead (b : Bs) : feedR [] true b = ([], true, [], 41) := by
  unfold feedR; rw [ok_nil, if_neg (by decide), if_pos rfl]
set_option maxRecDepth 10000 in
set_option maxHeartbeats 4000000 in
theorem over_law (A : Option Addr) (n c : Nat) (b : Bs) (B : Option Addr) (m k : Nat) (d : Bs) (w : World) (hb : Rd w A n b) (hd : Rd w B m d) (hc : c ≤ maxLen) (hnc : n ≤ c) (hk : k ≤ maxLen) (hmk : m ≤ k) :
    Calls Try.prog 6 #[.slice A n c, .slice B m k] w fun e w' => e = .returned (.bool true) ∧ Below w.heap.size w w' := by
  have K0 := hide (Below.refl w.heap.size w)
  unfold maxLen at hc hk
  by_cases h1 : 6000 < n
  · have g1 : (6000 : Int) < n := by omega
    go_enter Try.func6, Try.ntmps6
    go_wp2_with fail
    refine (heads_any _).mono ?_
    rintro e wh ⟨rfl, kh⟩
    have SH : Hid (Below w.heap.size w wh) := hide (below_more (h := by ((repeat (first | with_reducible exact Below.refl _ _ | with_reducible refine Below.alloc ?_ ?_ _)); all_goals (first | exact Nat.le_refl _ | (simp; done) | (simp; omega)))) (hB := Nat.le_refl _) (k := kh))
    have KH := hide (below_more K0.out (Nat.le_refl _) SH.out)
    clear kh
    go_wp2
    go_ret
    exact ⟨rfl, KH.out⟩
  by_cases h2 : 6000 < m
  · have g1 : ¬ (6000 : Int) < n := by omega
    have g2 : (6000 : Int) < m := by omega
    go_enter Try.func6, Try.ntmps6
    go_wp2_with fail
    refine (heads_any _).mono ?_
    rintro e wh ⟨rfl, kh⟩
    have SH : Hid (Below w.heap.size w wh) := hide (below_more (h := by ((repeat (first | with_reducible exact Below.refl _ _ | with_reducible refine Below.alloc ?_ ?_ _)); all_goals (first | exact Nat.le_refl _ | (simp; done) | (simp; omega)))) (hB := Nat.le_refl _) (k := kh))
    have KH := hide (below_more K0.out (Nat.le_refl _) SH.out)
    clear kh
    go_wp2
    go_ret
    exact ⟨rfl, KH.out⟩
  have g1 : ¬ (6000 : Int) < n := by omega
  have g2 : ¬ (6000 : Int) < m := by omega
  have HB := hide hb
  have HD := hide hd
  clear hb hd
  go_enter Try.func6, Try.ntmps6
  go_wp2_with fail
  by_cases h5 : (readD b).2.2 = 5
  · refine (feed_n none 0 0 false [] A n c b _ Reads.none_ HB.out (by omega) (by omega) [] true (readD b).1 5 0 (readD b).1.length (by rw [feed_zero, if_pos h5]) rfl rfl).mono ?_
    rintro e w1 ⟨A1, c1, B1, d1, rfl, q1, p1, k1⟩
    have K1 := hide k1
    have X1 := hide (Blk.new w1 24 #[Value.slice A1 0 c1, .bool true])
    clear q1 p1 k1 h5
    generalize (readD b).1.length = ml
    have hz5 : ((5 : Int) != 5) = false := rfl
    obtain ⟨x0, x1, y0, y1⟩ := X1.out.two
    have zx := X1.out.lt
    go_wp2_with fail
    refine (feed_n A1 0 c1 true [] B m k d _ Reads.none_ (Rd.up (Rd.up HD.out K1.out) (by ((repeat (first | with_reducible exact Below.refl _ _ | with_reducible refine Below.alloc ?_ ?_ _)); all_goals (first | exact Nat.le_refl _ | (simp; done) | (simp; omega))))) (by omega) (by omega) [] true [] 41 0 0 (feed_dead d) rfl rfl).mono ?_
    rintro e w2 ⟨A2, c2, B2, d2, rfl, q2, p2, k2⟩
    have S2 : Hid (Below w1.heap.size w1 w2) := hide (below_more (h := by ((repeat (first | with_reducible exact Below.refl _ _ | with_reducible refine Below.alloc ?_ ?_ _)); all_goals (first | exact Nat.le_refl _ | (simp; done) | (simp; omega)))) (hB := Nat.le_refl _) (k := k2))
    have K2 := hide (below_more K1.out (Nat.le_refl _) S2.out)
    have X2 := hide (X1.out.below k2 X1.out.lt)
    clear q2 p2 k2 x0 x1 y0 y1 X1 zx
    obtain ⟨x0, x1, y0, y1⟩ := X2.out.two
    have zx := X2.out.lt
    have hz0 : ((0 : Int) == 0) = true := rfl
    have hz41 : ((41 : Int) == 41) = true := rfl
    go_wp2_with fail
    refine (stsame_any A1 0 c1 A2 0 c2 true [] _ Reads.none_ Reads.none_).mono ?_
    rintro e w3 ⟨rfl, k3⟩
    have S3 : Hid (Below w2.heap.size w2 w3) := hide (below_more (h := by ((repeat (first | with_reducible exact Below.refl _ _ | with_reducible refine Below.alloc ?_ ?_ _)); all_goals (first | exact Nat.le_refl _ | (simp; done) | (simp; omega)))) (hB := Nat.le_refl _) (k := k3))
    have K3 := hide (below_more K2.out (Nat.le_refl _) S3.out)
    clear k3 x0 x1 y0 y1
    go_wp2_with fail
    refine (heads_any _).mono ?_
    rintro e wh ⟨rfl, kh⟩
    have SH : Hid (Below w3.heap.size w3 wh) := hide (below_more (h := by ((repeat (first | with_reducible exact Below.refl _ _ | with_reducible refine Below.alloc ?_ ?_ _)); all_goals (first | exact Nat.le_refl _ | (simp; done) | (simp; omega)))) (hB := Nat.le_refl _) (k := kh))
    have KH := hide (below_more K3.out (Nat.le_refl _) SH.out)
    clear kh
    go_wp2
    go_ret
    exact ⟨rfl, KH.out⟩
  · refine (feed_n none 0 0 false [] A n c b _ Reads.none_ HB.out (by omega) (by omega) (readD b).2.1 false (readD b).1 0 (readD b).2.1.length (readD b).1.length (by rw [feed_zero, if_neg h5]) rfl rfl).mono ?_
    rintro e w1 ⟨A1, c1, B1, d1, rfl, q1, p1, k1⟩
    have K1 := hide k1
    clear q1 p1 k1 h5
    generalize (readD b).1.length = ml
    generalize (readD b).2.1.length = nl
    have X1 := hide (Blk.new w1 24 #[Value.slice A1 nl c1, .bool false])
    obtain ⟨x0, x1, y0, y1⟩ := X1.out.two
    have zx := X1.out.lt
    have hz5 : ((0 : Int) != 5) = true := rfl
    have hz0 : ((0 : Int) == 0) = true := rfl
    go_wp2_with fail
    refine (heads_any _).mono ?_
    rintro e wh ⟨rfl, kh⟩
    have SH : Hid (Below w1.heap.size w1 wh) := hide (below_more (h := by ((repeat (first | with_reducible exact Below.refl _ _ | with_reducible refine Below.alloc ?_ ?_ _)); all_goals (first | exact Nat.le_refl _ | (simp; done) | (simp; omega)))) (hB := Nat.le_refl _) (k := kh))
    have KH := hide (below_more K1.out (Nat.le_refl _) SH.out)
    clear kh
    go_wp2
    go_ret
    exact ⟨rfl, KH.out⟩
#print axioms over_law
end Go.Proofs.Ytgmpcgcmcheelaa
