/- heads. -/
import Derived.Test.YtgmpcgcmcheelaaFeedW
import Derived.Test.YtgmpcgcmcheelaaSame
import Derived.Lib.SmallJoins
namespace Go.Proofs.Ytgmpcgcmcheelaa
open Go.RowKit
set_option linter.unusedVariables false

theorem Rd.up {w w' : World} {A : Option Addr} {n : Nat} {bs : Bs} (h : Rd w A n bs) (k : Below w.heap.size w w') : Rd w' A n bs := (Reads.below h k).more k.size
theorem lit_rd (W : World) (bs : Bs) (h : bs.length ≤ 1000) : Rd (W.alloc (.cells (bv bs).toArray 5)) (some ⟨W.heap.size, 0, none⟩) bs.length bs := by
  have h := Blk.own (base := 0) (cap := bs.length) (Blk.new W 5 (bv bs).toArray) (by omega) (by unfold maxLen; omega) (by simp [bv])
  have h2 := Reads.of_own h
  show Reads _ _ _ _ _ _
  simpa using h2
theorem lit_0_1_65_0 (W : World) (g : Nat) (hg : W.heap.size = g) : Rd (W.alloc (.cells #[.int .u8 0, .int .u8 1, .int .u8 65, .int .u8 0] 5)) (some ⟨g, 0, none⟩) 4 [0, 1, 65, 0] := by subst hg; exact lit_rd W [0, 1, 65, 0] (by decide)
theorem lit_0 (W : World) (g : Nat) (hg : W.heap.size = g) : Rd (W.alloc (.cells #[.int .u8 0] 5)) (some ⟨g, 0, none⟩) 1 [0] := by subst hg; exact lit_rd W [0] (by decide)
theorem lit_97_98 (W : World) (g : Nat) (hg : W.heap.size = g) : Rd (W.alloc (.cells #[.int .u8 97, .int .u8 98] 5)) (some ⟨g, 0, none⟩) 2 [97, 98] := by subst hg; exact lit_rd W [97, 98] (by decide)
theorem lit_0_2_1 (W : World) (g : Nat) (hg : W.heap.size = g) : Rd (W.alloc (.cells #[.int .u8 0, .int .u8 2, .int .u8 1] 5)) (some ⟨g, 0, none⟩) 3 [0, 2, 1] := by subst hg; exact lit_rd W [0, 2, 1] (by decide)
theorem lit_65 (W : World) (g : Nat) (hg : W.heap.size = g) : Rd (W.alloc (.cells #[.int .u8 65] 5)) (some ⟨g, 0, none⟩) 1 [65] := by subst hg; exact lit_rd W [65] (by decide)
theorem lit_0_2_97_98 (W : World) (g : Nat) (hg : W.heap.size = g) : Rd (W.alloc (.cells #[.int .u8 0, .int .u8 2, .int .u8 97, .int .u8 98] 5)) (some ⟨g, 0, none⟩) 4 [0, 2, 97, 98] := by subst hg; exact lit_rd W [0, 2, 97, 98] (by decide)
theorem lit_0_0 (W : World) (g : Nat) (hg : W.heap.size = g) : Rd (W.alloc (.cells #[.int .u8 0, .int .u8 0] 5)) (some ⟨g, 0, none⟩) 2 [0, 0] := by subst hg; exact lit_rd W [0, 0] (by decide)
theorem lit_mark (W : World) (g : Nat) (hg : W.heap.size = g) (C : Array Value) (bs : Bs) (hC : C.toList = bv bs) (fr : Nat × Nat) : Rd (W.alloc (.cells C 5 fr)) (some ⟨g, 0, none⟩) bs.length bs := by
  subst hg
  refine ⟨by simp [bv], fun _ => ⟨_, rfl, by simp, fun j u hj => ?_⟩⟩
  rw [at_add, Nat.zero_add, Go.Joins.cell_alloc_mark_at W C 5 fr W.heap.size j rfl, ← Array.getElem?_toList, hC]
  exact hj
theorem lit_rows (W : World) (g : Nat) (hg : W.heap.size = g) (A : Option Addr) (n c : Nat) (b : Bs) (h : Rd W A n b) : RowsP (W.alloc (.cells #[.slice A n c] 22)) (some ⟨g, 0, none⟩) 1 [b] := by
  subst hg
  refine ⟨[.slice A n c], (one_row W (.slice A n c)).more (by simp), rfl, fun j v b' hv hb => ?_⟩
  match j with
  | 0 =>
    simp at hv hb
    subst hv; subst hb
    exact ⟨A, n, c, rfl, (h.alloc (Nat.le_refl _) _).more (by simp)⟩
  | j + 1 => simp at hv
def NFeed (w : World) (h : Bs) (d : Bool) (bs : List Bs) (E : Int) (n m : Nat) (e : Ending) (w' : World) : Prop :=
  ∃ A c Bo cb, e = .returned (.tuple #[stV A n c d, .slice Bo m cb, .int .i64 E]) ∧ RowsP w' Bo m bs ∧ Rd w' A n h ∧ Below w.heap.size w w'
theorem feed_n (A : Option Addr) (n c : Nat) (dead : Bool) (h : Bs) (B : Option Addr) (m k : Nat) (b : Bs) (w : World) (hr : Rd w A n h) (hb : Rd w B m b) (hn : n ≤ 20000) (hm : m ≤ 20000)
    (h' : Bs) (d' : Bool) (bs' : List Bs) (E' : Int) (n' m' : Nat) (e : feedR h dead b = (h', d', bs', E')) (e1 : h'.length = n') (e2 : bs'.length = m') :
    Calls Try.prog 8 #[stV A n c dead, .slice B m k] w (NFeed w h' d' bs' E' n' m') := by
  refine (feed_any A n c dead h B m k b w hr hb hn hm).mono ?_
  rintro x w' ⟨A1, n1, c1, Bo, m1, cb, rfl, h1, h2, h3⟩
  rw [e] at h1 h2 ⊢
  obtain rfl : n1 = n' := by rw [← e1]; exact h2.len.symm
  obtain rfl : m1 = m' := by rw [← e2]; exact h1.rowsP.len.symm
  exact ⟨A1, c1, Bo, cb, rfl, h1.rowsP, h2, h3⟩
def NFeedW (w : World) (h : Bs) (d : Bool) (bs : List Bs) (E : Int) (n m : Nat) (e : Ending) (w' : World) : Prop :=
  ∃ A c Bo cb, e = .returned (.tuple #[stV A n c d, .slice Bo m cb, .int .i64 E]) ∧ RowsW w.heap.size w' Bo m cb bs ∧ Rd w' A n h ∧ Below w.heap.size w w'
theorem feed_w (A : Option Addr) (n c : Nat) (dead : Bool) (h : Bs) (B : Option Addr) (m k : Nat) (b : Bs) (w : World) (hr : Rd w A n h) (hb : Rd w B m b) (hn : n ≤ 20000) (hm : m ≤ 20000)
    (h' : Bs) (d' : Bool) (bs' : List Bs) (E' : Int) (n' m' : Nat) (e : feedR h dead b = (h', d', bs', E')) (e1 : h'.length = n') (e2 : bs'.length = m') :
    Calls Try.prog 8 #[stV A n c dead, .slice B m k] w (NFeedW w h' d' bs' E' n' m') := by
  refine (feed_any A n c dead h B m k b w hr hb hn hm).mono ?_
  rintro x w' ⟨A1, n1, c1, Bo, m1, cb, rfl, h1, h2, h3⟩
  rw [e] at h1 h2 ⊢
  obtain rfl : n1 = n' := by rw [← e1]; exact h2.len.symm
  obtain rfl : m1 = m' := by rw [← e2]; exact h1.rowsP.len.symm
  exact ⟨A1, c1, Bo, cb, rfl, h1, h2, h3⟩
theorem check_n (A : Option Addr) (n c : Nat) (dead : Bool) (h : Bs) (w : World) (hr : Rd w A n h) (hn : n ≤ 50000) (b : Bool) (e : okS h dead = b) :
    Calls Try.prog 17 #[stV A n c dead] w fun e w' => e = .returned (.bool b) ∧ Below w.heap.size w w' := by
  subst e; exact check_any A n c dead h w hr hn
theorem same_n (A B : Option Addr) (n m c d : Nat) (a b : Bs) (w : World) (ha : Rd w A n a) (hb : Rd w B m b) (e : a = b) :
    Calls Try.prog 16 #[.slice A n c, .slice B m d] w fun e w' => e = .returned (.bool true) ∧ w = w' := by
  subst e
  refine (same_any A B n m c d a a w _ _ ha hb).mono ?_
  rintro e w' ⟨rfl, rfl⟩
  exact ⟨by simp, rfl⟩

set_option maxRecDepth 10000 in
set_option maxHeartbeats 8000000 in
theorem heads_any (w : World) : Calls Try.prog 7 #[] w fun e w' => e = .returned (.bool true) ∧ Below w.heap.size w w' := by
  have K0 := hide (Below.refl w.heap.size w)
  go_enter Try.func7, Try.ntmps7
  go_wp2_with fail
  refine (feed_n none 0 0 false [] _ 4 4 [0, 1, 65, 0] _ Reads.none_ (lit_0_1_65_0 _ _ (by first | rfl | simp)) (by omega) (by omega) [0] false [[65]] 0 1 1 (by decide) rfl rfl).mono ?_
  rintro e w1 ⟨A1, c1, B1, d1, rfl, q1, p1, k1⟩
  have S1 : Hid (Below w.heap.size w w1) := hide (below_more (h := by ((repeat (first | with_reducible exact Below.refl _ _ | with_reducible refine Below.alloc ?_ ?_ _)); all_goals (first | exact Nat.le_refl _ | (simp; done) | (simp; omega)))) (hB := Nat.le_refl _) (k := k1))
  have K1 := hide (below_more K0.out (Nat.le_refl _) S1.out)
  have R1 := hide (q1)
  have F1 := hide (p1)
  have X1 := hide ((Blk.new w1 24 #[Value.slice A1 1 c1, .bool false]))
  clear q1 p1 k1
  obtain ⟨x0, x1, y0, y1⟩ := X1.out.two
  have zx := X1.out.lt
  go_wp2_with fail
  refine (feed_n A1 1 c1 false [0] _ 1 1 [0] _ (Rd.up F1.out (by ((repeat (first | with_reducible exact Below.refl _ _ | with_reducible refine Below.alloc ?_ ?_ _)); all_goals (first | exact Nat.le_refl _ | (simp; done) | (simp; omega))))) (lit_0 _ _ (by first | rfl | simp)) (by omega) (by omega) [] true [] 5 0 0 (by decide) rfl rfl).mono ?_
  rintro e w2 ⟨A2, c2, B2, d2, rfl, q2, p2, k2⟩
  have S2 : Hid (Below w1.heap.size w1 w2) := hide (below_more (h := by ((repeat (first | with_reducible exact Below.refl _ _ | with_reducible refine Below.alloc ?_ ?_ _)); all_goals (first | exact Nat.le_refl _ | (simp; done) | (simp; omega)))) (hB := Nat.le_refl _) (k := k2))
  have K2 := hide (below_more K1.out (Nat.le_refl _) S2.out)
  have R1b := hide (R1.out.below S2.out)
  have F1b := hide (Rd.up F1.out S2.out)
  have X2 : Hid (Blk w2 w1.heap.size 24 #[.slice A1 1 c1, .bool false]) := hide ((X1.out.alloc (.cells #[.int .u8 0] 5)).below k2 (X1.out.alloc (.cells #[.int .u8 0] 5)).lt)
  clear q2 p2 k2 x0 x1 y0 y1 X1 R1 F1
  go_wp2_with fail
  refine (feed_n none 0 0 true [] none 0 0 [] _ Reads.none_ Reads.none_ (by omega) (by omega) [] true [] 41 0 0 (by decide) rfl rfl).mono ?_
  rintro e w3 ⟨A3, c3, B3, d3, rfl, q3, p3, k3⟩
  have S3 : Hid (Below w2.heap.size w2 w3) := hide (below_more (h := by ((repeat (first | with_reducible exact Below.refl _ _ | with_reducible refine Below.alloc ?_ ?_ _)); all_goals (first | exact Nat.le_refl _ | (simp; done) | (simp; omega)))) (hB := Nat.le_refl _) (k := k3))
  have K3 := hide (below_more K2.out (Nat.le_refl _) S3.out)
  have R3 := hide (R1b.out.below S3.out)
  have F3 := hide (Rd.up F1b.out S3.out)
  have X3 := hide (X2.out.below S3.out X2.out.lt)
  clear q3 p3 k3 X2 R1b F1b
  have kc := Go.Joins.run_convert_bytes_const_at (P := Try.prog) (w3.alloc (.cells #[.slice A3 0 c3, .bool true] 24)) 22 5 #[.int .u8 97, .int .u8 98] 2 2 (w3.heap.size + 1) (by simp) Try.underlying22 Try.underlying5
  go_wp2_with fail
  refine (fput_yes _ 2 2 [97, 98] _ (lit_mark _ _ (by first | rfl | simp) _ [97, 98] rfl _) (by omega) (by omega)).mono ?_
  rintro e w4 ⟨J, j, rfl, o4, k4⟩
  have S4 : Hid (Below w3.heap.size w3 w4) := hide (below_more (h := by ((repeat (first | with_reducible exact Below.refl _ _ | with_reducible refine Below.alloc ?_ ?_ _)); all_goals (first | exact Nat.le_refl _ | (simp; done) | (simp; omega)))) (hB := Nat.le_refl _) (k := k4))
  have K4 := hide (below_more K3.out (Nat.le_refl _) S4.out)
  have R4 := hide (R3.out.below S4.out)
  have F4 := hide (Rd.up F3.out S4.out)
  have X4 := hide (X3.out.below S4.out X3.out.lt)
  have P4 := hide ((show Rd w4 J 4 [0, 2, 97, 98] from Reads.of_own o4))
  clear o4 k4 X3 R3 F3 kc
  go_wp2_with fail
  refine (all_any _ 3 3 [0, 2, 1] _ (lit_0_2_1 _ _ (by first | rfl | simp)) (by omega)).mono ?_
  rintro e w5 ⟨B5, m5, c5, rfl, q5, k5⟩
  have S5 : Hid (Below w4.heap.size w4 w5) := hide (below_more (h := by ((repeat (first | with_reducible exact Below.refl _ _ | with_reducible refine Below.alloc ?_ ?_ _)); all_goals (first | exact Nat.le_refl _ | (simp; done) | (simp; omega)))) (hB := Nat.le_refl _) (k := k5))
  have K5 := hide (below_more K4.out (Nat.le_refl _) S5.out)
  have R5 := hide (R4.out.below S5.out)
  have F5 := hide (Rd.up F4.out S5.out)
  have X5 := hide (X4.out.below S5.out X4.out.lt)
  have P5 := hide (Rd.up P4.out S5.out)
  clear q5 k5 X4 R4 F4 P4
  have hE : (readD [0, 2, 1]).2.2 = 3 := by decide
  rw [hE]
  clear hE
  obtain ⟨x0, x1, y0, y1⟩ := X5.out.two
  have zx5 := X5.out.lt
  go_wp2_with fail
  refine (rows_any B1 1 d1 _ 1 [[65]] _ (RowsP.below R5.out (by ((repeat (first | with_reducible exact Below.refl _ _ | with_reducible refine Below.alloc ?_ ?_ _)); all_goals (first | exact Nat.le_refl _ | (simp; done) | (simp; omega))))) (lit_rows _ _ (by simp) _ 1 1 [65] (lit_65 _ _ (by first | rfl | simp))) (by omega)).mono ?_
  rintro e w6 ⟨rfl, k6⟩
  have S6 : Hid (Below w5.heap.size w5 w6) := hide (below_more (h := by ((repeat (first | with_reducible exact Below.refl _ _ | with_reducible refine Below.alloc ?_ ?_ _)); all_goals (first | exact Nat.le_refl _ | (simp; done) | (simp; omega)))) (hB := Nat.le_refl _) (k := k6))
  have K6 := hide (below_more K5.out (Nat.le_refl _) S6.out)
  have F6 := hide (Rd.up F5.out S6.out)
  have X6 := hide (X5.out.below S6.out X5.out.lt)
  have P6 := hide (Rd.up P5.out S6.out)
  clear k6 X5 R5 F5 P5 x0 x1 y0 y1
  obtain ⟨x0, x1, y0, y1⟩ := X6.out.two
  have zx6 := X6.out.lt
  go_wp2_with fail
  refine (same_n A1 _ 1 1 c1 1 [0] [0] _ (Rd.up F6.out (by ((repeat (first | with_reducible exact Below.refl _ _ | with_reducible refine Below.alloc ?_ ?_ _)); all_goals (first | exact Nat.le_refl _ | (simp; done) | (simp; omega))))) (lit_0 _ _ (by first | rfl | simp)) rfl).mono ?_
  rintro e w7 ⟨rfl, rfl⟩
  go_wp2_with fail
  refine (same_n J _ 4 4 j 4 [0, 2, 97, 98] [0, 2, 97, 98] _ (Rd.up P6.out (by ((repeat (first | with_reducible exact Below.refl _ _ | with_reducible refine Below.alloc ?_ ?_ _)); all_goals (first | exact Nat.le_refl _ | (simp; done) | (simp; omega))))) (lit_0_2_97_98 _ _ (by first | rfl | simp)) rfl).mono ?_
  rintro e w7 ⟨rfl, rfl⟩
  go_wp2_with fail
  refine (check_n A1 1 c1 false [0] _ (Rd.up F6.out (by ((repeat (first | with_reducible exact Below.refl _ _ | with_reducible refine Below.alloc ?_ ?_ _)); all_goals (first | exact Nat.le_refl _ | (simp; done) | (simp; omega))))) (by omega) true (by decide)).mono ?_
  rintro e w8 ⟨rfl, k8⟩
  have S8 : Hid (Below w6.heap.size w6 w8) := hide (below_more (h := by ((repeat (first | with_reducible exact Below.refl _ _ | with_reducible refine Below.alloc ?_ ?_ _)); all_goals (first | exact Nat.le_refl _ | (simp; done) | (simp; omega)))) (hB := Nat.le_refl _) (k := k8))
  have K8 := hide (below_more K6.out (Nat.le_refl _) S8.out)
  clear k8
  go_wp2_with fail
  refine (check_n _ 2 2 false [0, 0] _ (lit_0_0 _ _ (by first | rfl | simp)) (by omega) false (by decide)).mono ?_
  rintro e w9 ⟨rfl, k9⟩
  have S9 : Hid (Below w8.heap.size w8 w9) := hide (below_more (h := by ((repeat (first | with_reducible exact Below.refl _ _ | with_reducible refine Below.alloc ?_ ?_ _)); all_goals (first | exact Nat.le_refl _ | (simp; done) | (simp; omega)))) (hB := Nat.le_refl _) (k := k9))
  have K9 := hide (below_more K8.out (Nat.le_refl _) S9.out)
  clear k9
  go_wp2
  go_ret
  exact ⟨rfl, K9.out⟩
#print axioms heads_any
end Go.Proofs.Ytgmpcgcmcheelaa
