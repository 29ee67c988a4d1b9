/- Feed of bytes that go on, at a stream that may be: what is left lies in a block of its own. -/
import Derived.Test.YtgmpcgcmcheelaaBackR
import Derived.Test.YtgmpcgcmcheelaaReadB
namespace Go.Proofs.Ytgmpcgcmcheelaa
open Go.RowKit
set_option linter.unusedVariables false

def FeedB (w : World) (h b : Bs) (n' m' : Nat) (e : Ending) (w' : World) : Prop :=
  ∃ A c Bo cb, e = .returned (.tuple #[stV A n' c false, .slice Bo m' cb, .int .i64 0]) ∧ RowsX w.heap.size w' Bo m' cb (readD (h ++ b)).1 ∧ Rd w' A n' (readD (h ++ b)).2.1 ∧ Below w.heap.size w w' ∧ ∀ x, A = some x → w.heap.size ≤ x.block
set_option maxHeartbeats 4000000 in
theorem feed_b (A : Option Addr) (n c : Nat) (h : Bs) (B : Option Addr) (m k : Nat) (b : Bs) (w : World) (hr : Rd w A n h) (hb : Rd w B m b) (hn : n ≤ 20000) (hm : m ≤ 20000)
    (hok : okS h false = true) (h5 : (readD (h ++ b)).2.2 ≠ 5) (n' m' : Nat) (en : (readD (h ++ b)).2.1.length = n') (em : (readD (h ++ b)).1.length = m') :
    Calls Try.prog 8 #[stV A n c false, .slice B m k] w (FeedB w h b n' m') := by
  have HA := hide hr
  have HB := hide hb
  have HN := hide en
  have HM := hide em
  have HOK := hide hok
  clear hr hb en em hok
  go_enter Try.func8, Try.ntmps8
  go_wp2_with fail
  refine (check_n A n c false h _ ((((HA.out.alloc (Nat.le_refl _) _).alloc (by simp) _)).more (by simp; omega)) (by omega) true HOK.out).mono ?_
  rintro e w1 ⟨rfl, k1⟩
  have BP := hide (((Blk.new w 24 #[Value.slice A n c, .bool false]).alloc (.cells #[.slice none 0 0, .bool false] 24)).below k1 (by simp; omega))
  have BQ : Hid (Blk w1 (w.heap.size + 1) 24 #[.slice none 0 0, .bool false]) := hide (by have h := (Blk.new (w.alloc (.cells #[Value.slice A n c, .bool false] 24)) 24 #[.slice none 0 0, .bool false]).below k1 (by simp); rwa [World.size_alloc] at h)
  have K1 := hide (below_more (((Below.refl w.heap.size w).alloc (Nat.le_refl _) (.cells #[Value.slice A n c, .bool false] 24)).alloc (by simp) (.cells #[.slice none 0 0, .bool false] 24)) (Nat.le_refl _) k1)
  clear k1
  have zq := BQ.out.lt
  have zp := BP.out.lt
  have hne : w.heap.size ≠ w.heap.size + 1 := by omega
  obtain ⟨x0, x1, y0, y1⟩ := BP.out.two
  obtain ⟨u0, u1, v0, v1⟩ := BQ.out.two
  go_wp2_with fail
  have ha1 := hide ((Reads.below HA.out K1.out).more K1.out.size)
  have hb1 := hide ((Reads.below HB.out K1.out).more K1.out.size)
  refine (concat_any w1.heap.size A n c B m k h b _ (Blk.new w1 22 #[.slice A n c, .slice B m k]) ((ha1.out.alloc (Nat.le_refl _) _).more (by simp)) ((hb1.out.alloc (Nat.le_refl _) _).more (by simp)) (by omega) (by omega)).mono ?_
  rintro e w2 ⟨v, rfl, ho, hbb⟩
  obtain ⟨A2, c2, rfl⟩ := own_slice ho
  have hcap := own_caps ho
  have hA2 : Hid (∀ x, A2 = some x → w1.heap.size ≤ x.block) := hide (by
    intro x hx
    subst hx
    have h1 := (World.ownsRow.lt ho x.block rfl).1
    have h2 : w1.heap.size ≤ (w1.alloc (.cells #[.slice A n c, .slice B m k] 22)).heap.size := by simp
    omega)
  have K2' := hide (below_more ((Below.refl w1.heap.size w1).alloc (Nat.le_refl _) (.cells #[.slice A n c, .slice B m k] 22)) (Nat.le_refl _) hbb)
  have HO := hide ho
  clear ho hbb x0 x1 y0 y1 u0 u1 v0 v1
  go_wp2_with fail
  refine (read_blk A2 (n + m) c2 (h ++ b) _ (Reads.of_own HO.out) hcap (by omega)).mono ?_
  rintro e w3 ⟨Bo, mm, cb, A3, n3, c3, rfl, hro, hrr, hc3, hb3, hsub⟩
  have K3 := hide (below_more K2'.out (Nat.le_refl _) hb3)
  have hA3 : Hid (∀ x, A3 = some x → w.heap.size ≤ x.block) := hide (fun x hx => by
    obtain ⟨y, e1, e2⟩ := hsub x hx
    have h1 := hA2.out y e1
    have h2 := K1.out.size
    omega)
  clear hsub
  have hlo := hide K3.out.size
  have l1 : n3 = n' := by rw [← HN.out]; exact (Rd_len hrr).symm
  have l2 : mm = m' := by
    obtain ⟨vs, h1, h2, _⟩ := hro
    rw [← HM.out, ← h2.1, h1.1]; omega
  subst l1 l2
  obtain ⟨vs, hvs1, hvs2, hvs3⟩ := hro
  have HV3 : Hid (FreshV w.heap.size vs) := hide (fun u hu x n c e => by
    obtain ⟨A', n', c', e2, hs⟩ := hvs3 u hu
    rw [e] at e2
    injection e2 with e3 e4 e5
    obtain ⟨y, e6, e7⟩ := hs x e3.symm
    have h1 := hA2.out y e6
    have h2 := K1.out.size
    omega)
  clear hvs3
  have HV1 := hide hvs1
  have HV2 := hide (hvs2.more hb3.size)
  have HRR := hide (hrr.more hb3.size)
  have hw2 := hide K2'.out.size
  clear hvs1 hvs2 hrr hb3
  have BQ3 := hide (BQ.out.below K3.out BQ.out.lt)
  obtain ⟨u0, u1, v0, v1⟩ := BQ3.out.two
  have zq3 := BQ3.out.lt
  have hlw : w.heap.size ≤ w2.heap.size := by have := hw2.out; have := K1.out.size; omega
  have zq2 : w.heap.size + 1 < w2.heap.size := by have := hw2.out; omega
  have HRW : Hid (RowsX w.heap.size w3 Bo mm cb (readD (h ++ b)).1) := hide ⟨vs, own_more HV1.out hlw, HV2.out, HV3.out⟩
  have HRD := hide (rd_far (w := w3) (g := w.heap.size + 1) BQ3.out HRR.out)
  have hz : ((readD (h ++ b)).2.2 == 5) = false := beq_eq_false_iff_ne.2 h5
  generalize (readD (h ++ b)).2.2 = E at hz h5 ⊢
  clear h5
  go_wp2
  refine bodyPost_ret (v := .tuple #[stV A3 n3 c3 false, .slice Bo mm cb, .int .i64 0]) (by simp only [results, Try.results8]; go_simp) rfl ⟨A3, c3, Bo, cb, rfl, RowsX.set2_ BQ3.out HRW.out _ _, HRD.out _ _, ?_, hA3.out⟩
  exact ((below_more K1.out (Nat.le_refl _) K3.out).setCell (by simp) _).setCell (by simp) _
end Go.Proofs.Ytgmpcgcmcheelaa
