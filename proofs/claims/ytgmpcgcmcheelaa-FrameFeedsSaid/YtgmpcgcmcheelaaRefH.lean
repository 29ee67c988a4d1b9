/- The reference's Feed. -/
import Derived.Test.YtgmpcgcmcheelaaRefG
namespace Go.Proofs.Ytgmpcgcmcheelaa
open Go.RowKit
set_option linter.unusedVariables false

def RFeed (w : World) (r : Bs × Bool × List Bs × Int) (e : Ending) (w' : World) : Prop :=
  ∃ A n c Bo m cb, e = .returned (.tuple #[stV A n c r.2.1, .slice Bo m cb, .int .i64 r.2.2.2]) ∧ RowsP w' Bo m r.2.2.1 ∧ Rd w' A n r.1 ∧ Below w.heap.size w w'
theorem RFeed.mk_ {w w' : World} {r : Bs × Bool × List Bs × Int} {h : Bs} {d : Bool} {bs : List Bs} {E : Int} {A : Option Addr} {n c : Nat} {Bo : Option Addr} {m cb : Nat} (hr : r = (h, d, bs, E)) (h1 : RowsP w' Bo m bs) (h2 : Rd w' A n h) (h3 : Below w.heap.size w w') :
    RFeed w r (.returned (.tuple #[stV A n c d, .slice Bo m cb, .int .i64 E])) w' := by
  subst hr; exact ⟨A, n, c, Bo, m, cb, rfl, h1, h2, h3⟩
set_option maxRecDepth 10000 in
set_option maxHeartbeats 4000000 in
theorem rfeed_any (A : Option Addr) (n c : Nat) (dead : Bool) (h : Bs) (B : Option Addr) (m k : Nat) (b : Bs) (w : World) (hr : Rd w A n h) (hb : Rd w B m b) (hn : n ≤ 20000) (hm : m ≤ 20000) :
    Calls Try.prog 9 #[stV A n c dead, .slice B m k] w (RFeed w (feedR h dead b)) := by
  obtain ⟨i0, hi, hz0, hz1, hz2⟩ := info_parts infoU8
  obtain ⟨r, hR⟩ : ∃ r, feedR h dead b = r := ⟨_, rfl⟩
  rw [hR]
  have HR := hide hR
  have HA := hide hr
  have HB := hide hb
  clear hR hr hb
  go_enter Try.func9, Try.ntmps9
  go_wp2_with fail
  refine (rcheck_any A n c dead h _ ((((HA.out.alloc (Nat.le_refl _) _).alloc (by simp) _)).more (by simp; omega)) (by omega)).mono ?_
  rintro e w1 ⟨rfl, k1⟩
  have BP := hide (((Blk.new w 24 #[Value.slice A n c, .bool dead]).alloc (.cells #[.slice none 0 0, .bool false] 24)).below k1 (by simp; omega))
  have BQ : Hid (Blk w1 (w.heap.size + 1) 24 #[.slice none 0 0, .bool false]) := hide (by have h := (Blk.new (w.alloc (.cells #[Value.slice A n c, .bool dead] 24)) 24 #[.slice none 0 0, .bool false]).below k1 (by simp); rwa [World.size_alloc] at h)
  have K1 := hide (below_more (((Below.refl w.heap.size w).alloc (Nat.le_refl _) (.cells #[Value.slice A n c, .bool dead] 24)).alloc (by simp) (.cells #[.slice none 0 0, .bool false] 24)) (Nat.le_refl _) k1)
  clear k1
  have zq := BQ.out.lt
  have zp := BP.out.lt
  have hne : w.heap.size ≠ w.heap.size + 1 := by omega
  obtain ⟨x0, x1, y0, y1⟩ := BP.out.two
  obtain ⟨u0, u1, v0, v1⟩ := BQ.out.two
  have HA1 := hide (Rd.up HA.out K1.out)
  have HB1 := hide (Rd.up HB.out K1.out)
  cases hok : okS h dead
  · have HE : Hid (r = (h, dead, [], 2)) := hide (by rw [← HR.out]; unfold feedR; rw [if_pos hok])
    clear hok HR
    go_wp2
    refine bodyPost_ret (v := .tuple #[stV A n c dead, .slice none 0 0, .int .i64 2]) (by simp only [results, Try.results9]; go_simp) rfl (RFeed.mk_ HE.out (RowsP.nil _) (rd_far BQ.out HA1.out _ _) ?_)
    exact (K1.out.setCell (by simp) _).setCell (by simp) _
  · cases dead
    · have HC : Hid (∀ E, (readD (h ++ b)).2.2 = E → r = if E = 5 then ([], true, (readD (h ++ b)).1, 5) else ((readD (h ++ b)).2.1, false, (readD (h ++ b)).1, 0)) := hide (fun E hE => by rw [← HR.out]; unfold feedR; rw [hok, if_neg (by decide), if_neg (by decide), hE])
      clear hok HR
      have hown0 := Blk.own (base := w1.heap.size) (cap := 0) (Blk.new w1 5 #[]) (Nat.le_refl _) (Nat.zero_le _) rfl
      have hra : Reads (w1.alloc (.cells #[] 5)) w1.heap.size 1 A n (bv h) := HA1.out.alloc (Nat.le_refl _) _
      go_wp2_with (at_builtin; (refine wpList_append_any _ rfl (.tmp 18) (.tmp 20) 22 rfl w1.heap.size 5 i0 _ 1 1 Try.underlying22 hi hz0 hz1 hz2 rfl (by omega) (.slice (some ⟨w1.heap.size, 0, none⟩) 0 0) 0 [] rfl hown0 w1.heap.size A n c (bv h) rfl hra (bv_one _) ?a1 ?a2 ?a3 ?_))
      case a1 => unfold maxLen; omega
      case a2 => omega
      case a3 => simp
      intro u1' w2 hown1 hg1 hat1
      obtain ⟨X1, c1, rfl⟩ := own_slice hown1
      have K2 := hide (Below.grown (h := (Below.refl w1.heap.size w1).alloc (Nat.le_refl _) (.cells #[] 5)) (hg := hg1) (by simp) (fun g hg => (World.ownsRow.lt hown0 g hg).1))
      have hrb : Reads w2 w1.heap.size 1 B m (bv b) := Reads.below HB1.out K2.out
      have hk2 := K2.out.size
      clear hg1 hat1 hra hown0
      go_wp2_with (at_builtin; (refine wpList_append_any _ rfl (.tmp 21) (.tmp 22) 22 rfl w1.heap.size 5 i0 _ 1 1 Try.underlying22 hi hz0 hz1 hz2 rfl (by omega) (.slice X1 n c1) n (bv h) rfl hown1 w1.heap.size B m k (bv b) rfl hrb (bv_one _) ?b1 ?b2 ?b3 ?_))
      case b1 => unfold maxLen; omega
      case b2 => omega
      case b3 => exact hk2
      intro u2 w3 hown2 hg2 hat2
      obtain ⟨X2, c2, rfl⟩ := own_slice hown2
      rw [← bv_append] at hown2
      have K3 := hide (Below.grown (h := K2.out) (hg := hg2) hk2 (fun g hg => (World.ownsRow.lt hown1 g hg).1))
      have hcap := own_caps hown2
      have HO2 := hide (Reads.of_own hown2)
      clear hg2 hat2 hown1 hown2 hrb hk2 x0 x1 y0 y1 u0 u1 v0 v1
      go_wp2_with fail
      refine (rcut_any X2 (n + m) c2 (h ++ b) _ HO2.out hcap (by omega)).mono ?_
      rintro e w4 ⟨Bo, mm, cb, A4, n4, c4, rfl, q4, p4, k4⟩
      have K4 := hide (below_more K3.out (Nat.le_refl _) k4)
      have Q4 := hide q4
      have P4 := hide p4
      have hE := hide (HC.out _ rfl)
      have hln := read_len _ (h ++ b) (Nat.le_refl _)
      rw [p4.len, List.length_append, HA.out.len, HB.out.len] at hln
      have hn4 : n4 ≤ 40000 := by omega
      clear q4 p4 k4 HC hln
      have BQ4 := hide (BQ.out.below K4.out BQ.out.lt)
      have K14 := hide (below_more K1.out (Nat.le_refl _) K4.out)
      have hown3 := Blk.own (base := w4.heap.size) (cap := 0) (Blk.new w4 5 #[]) (Nat.le_refl _) (Nat.zero_le _) rfl
      have hr4 : Reads (w4.alloc (.cells #[] 5)) w4.heap.size 1 A4 n4 (bv (readD (h ++ b)).2.1) := P4.out.alloc (Nat.le_refl _) _
      have hL := hide (fun h5 => read_rest5 (x := h ++ b) h5)
      generalize (readD (h ++ b)).2.2 = E at hE hL ⊢
      by_cases h5 : E = 5
      · have HE : Hid (r = ([], true, (readD (h ++ b)).1, 5)) := hide (by rw [hE.out, if_pos h5])
        have hl0 := hL.out h5
        have P40 : Hid ((readD (h ++ b)).2.1 = []) := hide hl0
        rw [if_pos h5]
        clear hl0 h5 hE hL
        go_wp2_with (at_builtin; (refine wpList_append_any _ rfl (.tmp 28) (.tmp 29) 22 rfl w4.heap.size 5 i0 _ 1 1 Try.underlying22 hi hz0 hz1 hz2 rfl (by omega) (.slice (some ⟨w4.heap.size, 0, none⟩) 0 0) 0 [] rfl hown3 w4.heap.size A4 n4 c4 (bv (readD (h ++ b)).2.1) rfl hr4 (bv_one _) ?d1 ?d2 ?d3 ?_))
        case d1 => unfold maxLen; omega
        case d2 => omega
        case d3 => simp
        intro u5 w5 hown5 hg5 hat5
        obtain ⟨X5, c5, rfl⟩ := own_slice hown5
        have K5 := hide (Below.grown (h := (Below.refl w4.heap.size w4).alloc (Nat.le_refl _) (.cells #[] 5)) (hg := hg5) (by simp) (fun g hg => (World.ownsRow.lt hown3 g hg).1))
        have BQ5 := hide (BQ4.out.below K5.out BQ4.out.lt)
        have Q5 := hide (Q4.out.below K5.out)
        have P5 : Hid (Rd w5 X5 n4 (readD (h ++ b)).2.1) := hide (Reads.of_own hown5)
        have K15 := hide (below_more K14.out (Nat.le_refl _) K5.out)
        have zq5 := BQ5.out.lt
        obtain ⟨u0, u1, v0, v1⟩ := BQ5.out.two
        clear hown5 hg5 hat5 hown3 hr4
        go_wp2
        refine bodyPost_ret (v := .tuple #[stV X5 n4 c5 true, .slice Bo mm cb, .int .i64 5]) (by simp only [results, Try.results9]; go_simp) rfl (RFeed.mk_ HE.out (OutS.set2_ BQ5.out Q5.out _ _).rowsP (rd_far BQ5.out (by have h := P5.out; rw [P40.out] at h; exact h) _ _) ?_)
        exact (K15.out.setCell (by simp) _).setCell (by simp) _
      · have HE : Hid (r = ((readD (h ++ b)).2.1, false, (readD (h ++ b)).1, 0)) := hide (by rw [hE.out, if_neg h5])
        rw [if_neg h5]
        clear h5 hE hL
        go_wp2_with (at_builtin; (refine wpList_append_any _ rfl (.tmp 28) (.tmp 29) 22 rfl w4.heap.size 5 i0 _ 1 1 Try.underlying22 hi hz0 hz1 hz2 rfl (by omega) (.slice (some ⟨w4.heap.size, 0, none⟩) 0 0) 0 [] rfl hown3 w4.heap.size A4 n4 c4 (bv (readD (h ++ b)).2.1) rfl hr4 (bv_one _) ?e1 ?e2 ?e3 ?_))
        case e1 => unfold maxLen; omega
        case e2 => omega
        case e3 => simp
        intro u5 w5 hown5 hg5 hat5
        obtain ⟨X5, c5, rfl⟩ := own_slice hown5
        have K5 := hide (Below.grown (h := (Below.refl w4.heap.size w4).alloc (Nat.le_refl _) (.cells #[] 5)) (hg := hg5) (by simp) (fun g hg => (World.ownsRow.lt hown3 g hg).1))
        have BQ5 := hide (BQ4.out.below K5.out BQ4.out.lt)
        have Q5 := hide (Q4.out.below K5.out)
        have P5 : Hid (Rd w5 X5 n4 (readD (h ++ b)).2.1) := hide (Reads.of_own hown5)
        have K15 := hide (below_more K14.out (Nat.le_refl _) K5.out)
        have zq5 := BQ5.out.lt
        obtain ⟨u0, u1, v0, v1⟩ := BQ5.out.two
        clear hown5 hg5 hat5 hown3 hr4
        go_wp2
        refine bodyPost_ret (v := .tuple #[stV X5 n4 c5 false, .slice Bo mm cb, .int .i64 0]) (by simp only [results, Try.results9]; go_simp) rfl (RFeed.mk_ HE.out (OutS.set2_ BQ5.out Q5.out _ _).rowsP (rd_far BQ5.out P5.out _ _) ?_)
        exact (K15.out.setCell (by simp) _).setCell (by simp) _
    · have HE : Hid (r = ([], true, [], 41)) := hide (by rw [← HR.out]; unfold feedR; rw [hok, if_neg (by decide), if_pos rfl])
      have h0 : h = [] := by
        cases h with
        | nil => rfl
        | cons a t => cases hok
      have h1 := HA1.out
      rw [h0] at h1
      have HA2 := hide h1
      clear hok HR h0 h1
      go_wp2
      refine bodyPost_ret (v := .tuple #[stV A n c true, .slice none 0 0, .int .i64 41]) (by simp only [results, Try.results9]; go_simp) rfl (RFeed.mk_ HE.out (RowsP.nil _) (rd_far BQ.out HA2.out _ _) ?_)
      exact (K1.out.setCell (by simp) _).setCell (by simp) _
end Go.Proofs.Ytgmpcgcmcheelaa
