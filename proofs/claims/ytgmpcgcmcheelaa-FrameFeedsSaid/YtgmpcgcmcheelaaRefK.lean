/- The reference's cut. -/
import Derived.Test.YtgmpcgcmcheelaaRefL
namespace Go.Proofs.Ytgmpcgcmcheelaa
open Go.RowKit
set_option linter.unusedVariables false

def CutEnd (w : World) (d : Bs) (e : Ending) (w' : World) : Prop :=
  ∃ Bo m cb A n c, e = .returned (.tuple #[.slice Bo m cb, .slice A n c, .int .i64 (if (readD d).2.2 = 5 then 5 else 0)]) ∧ OutS w.heap.size w' Bo m cb (readD d).1 ∧ Rd w' A n (readD d).2.1 ∧ Below w.heap.size w w'
theorem FreshV.one {w : World} {B : Nat} {X : Option Addr} {n c : Nat} {xs : List Value} (h : w.ownsRow B 5 1 (.slice X n c) n xs) : FreshV B [.slice X n c] := by
  intro u hu x n' c' e
  obtain rfl := List.mem_singleton.1 hu
  injection e with e1 e2 e3
  subst e1
  exact (World.ownsRow.lt h x.block rfl).1
set_option maxRecDepth 10000 in
set_option maxHeartbeats 8000000 in
theorem rcut_any (A : Option Addr) (n c : Nat) (d : Bs) (w : World) (hr : Rd w A n d) (hc : n ≤ c) (hn : n ≤ 100000) :
    Calls Try.prog 22 #[.slice A n c] w (CutEnd w d) := by
  obtain ⟨i0, hi, hz0, hz1, hz2⟩ := info_parts infoU8
  obtain ⟨iR, hiR, hzR0, hzR1, hzR2⟩ := info_parts infoRow
  have HR := hide hr
  clear hr
  go_enter Try.func22, Try.ntmps22
  go_wp2_with fail
  go_loopw [0, 5] (fun b o wr => ∃ (A' : Option Addr) (n' c' : Nat) (O : Option Addr) (q co : Nat) (d' : Bs) (bs : List Bs), b = .slice A' n' c' ∧ o = .slice O q co ∧ n' ≤ c' ∧ Reads wr w.heap.size 1 A' n' (bv d') ∧ OutS w.heap.size wr O q co bs ∧ Below w.heap.size w wr ∧ q + n' ≤ n ∧ readD d = (bs ++ (readD d').1, (readD d').2)) (fun b _ _ => lenOf0 b)
  case atStart => exact ⟨A, n, c, none, 0, 0, d, [], rfl, rfl, hc, HR.out, OutS.nil _ _, Below.refl _ _, by omega, rfl⟩
  case round =>
    obtain ⟨A', n', c', O, q, co, d', bs, rfl, rfl, hc', r1, ou, bel, hq, hJ⟩ := hrel
    have hl := hide (Rd_len r1)
    have HJ := hide hJ
    have hn' : n' ≤ 100000 := by omega
    have hq' : q ≤ 100000 := by omega
    clear hJ
    go_wp2_with fail
    refine (len_any A' n' c' d' _ (r1.more bel.size)).mono ?_
    rintro e w1 ⟨rfl, dq, hdq⟩
    have KD : Below wr.heap.size wr w1 := by rw [hdq]; exact below_drewN_ (Below.refl _ _) _
    have K1 := hide (below_more bel (Nat.le_refl _) KD)
    have R1 := hide (r1.keep (w' := w1) fun p hp => KD.cell (Nat.lt_of_lt_of_le hp bel.size))
    have O1 := hide (ou.below KD)
    clear r1 ou bel KD hdq HR
    rcases Nat.lt_or_ge n' 2 with g1 | g1
    · have hLR : lenR d' = -1 := by unfold lenR; rw [if_pos (by rw [hl.out]; exact g1)]
      rw [hLR]
      have HE : Hid (∃ E, readD d = (bs, d', E) ∧ E ≠ 5) := hide (by
        rcases Nat.lt_or_ge n' 1 with h0 | h0
        · have hd0 : d' = [] := List.eq_nil_of_length_eq_zero (by rw [hl.out]; omega)
          exact ⟨0, by rw [HJ.out, hd0, read_nil]; simp, by decide⟩
        · exact ⟨3, by rw [HJ.out, read_one (by rintro rfl; have := hl.out; simp at this; omega) (by rw [hl.out]; exact g1)]; simp, by decide⟩)
      clear hLR HJ
      go_wp2
      go_ret3
      obtain ⟨E, hE, hE5⟩ := HE.out
      exact ⟨O, q, co, A', n', c', by rw [hE]; simp only [if_neg hE5]; rfl, by rw [hE]; exact O1.out, by rw [hE]; exact R1.out.more K1.out.size, K1.out⟩
    obtain ⟨z, hz⟩ : ∃ z, numB (d'.take 2) = z := ⟨_, rfl⟩
    have HZ := hide hz
    by_cases hbad : z < 1 ∨ 4096 < z
    · have hLR : lenR d' = 0 := by
        unfold lenR; rw [if_neg (by rw [hl.out]; omega), hz]
        rcases hbad with h | h
        · obtain rfl : z = 0 := by omega
          rfl
        · rw [if_pos h]
      rw [hLR]
      have HE : Hid (readD d = (bs, [], 5)) := hide (by rw [HJ.out, read_bad (by rw [hl.out]; exact g1) (by unfold bad; rw [hz]; exact decide_eq_true hbad)]; simp)
      clear hLR HJ hz hbad
      go_wp2
      go_ret3
      exact ⟨O, q, co, none, 0, 0, by rw [HE.out]; rfl, by rw [HE.out]; exact O1.out, by rw [HE.out]; exact Reads.none_, K1.out⟩
    have hz1' : 1 ≤ z := by omega
    have hz2' : z ≤ 4096 := by omega
    have hLR : lenR d' = (z : Int) := by unfold lenR; rw [if_neg (by rw [hl.out]; omega), hz, if_neg (by omega)]
    have HBD : Hid (bad d' = false) := hide (by unfold bad; rw [hz]; exact decide_eq_false (by omega))
    rw [hLR]
    have hzz : ((z : Int) == 0) = false := beq_eq_false_iff_ne.2 (by omega)
    have hzn : ¬ (z : Int) < 0 := by omega
    clear hLR hz hbad
    by_cases hs : n' < 2 + z
    · have hs' : (n' : Int) - 2 < (z : Int) := by omega
      have HE : Hid (readD d = (bs, d', 3)) := hide (by rw [HJ.out, read_short (by rw [hl.out]; exact g1) HBD.out (by rw [hl.out, HZ.out]; exact hs)]; simp)
      clear HJ
      go_wp2
      go_ret3
      exact ⟨O, q, co, A', n', c', by rw [HE.out]; rfl, by rw [HE.out]; exact O1.out, by rw [HE.out]; exact R1.out.more K1.out.size, K1.out⟩
    have hs' : ¬ (n' : Int) - 2 < (z : Int) := by omega
    have hN : Hid (readD d' = ((d'.drop 2).take z :: (readD (d'.drop (2 + z))).1, (readD (d'.drop (2 + z))).2)) := hide (by have h := read_next (d := d') (by rw [hl.out]; exact g1) HBD.out (by rw [hl.out, HZ.out]; omega); rw [HZ.out] at h; exact h)
    have hs2 : ∀ W, (Instr.slice 22 (.slice A' n' c') (some (.int .i64 2)) (some (.int .i64 (2 + (z : Int)))) none).run Try.prog W = .ok (.slice (A'.map (·.add 2)) z (c' - 2)) W := fun W => by
      rw [run_slice_lh W 22 A' n' c' (slice_ht Try.underlying22) .i64 .i64 2 (2 + (z : Int)) (by omega) (by omega) (by omega), elemU8, run_sizeOf_one 5 sizeU8]
      have e1 : (2 + (z : Int)).toNat = 2 + z := by omega
      have e2 : ¬ c' = 2 := by omega
      simp only [Result.andThen, sliced, e1, show ((2 : Int).toNat) = 2 from rfl, Nat.mul_one, if_neg e2, Nat.add_sub_cancel_left]
    have hs3 : ∀ W, (Instr.slice 22 (.slice A' n' c') (some (.int .i64 (2 + (z : Int)))) none none).run Try.prog W = .ok (.slice (if c' = 2 + z then A' else A'.map (·.add (2 + z))) (n' - (2 + z)) (c' - (2 + z))) W := fun W => by
      have h := run_slice_from (P := Try.prog) 22 5 Try.underlying22 sizeU8 A' n' c' .i64 (2 + (z : Int)) (by omega) (by omega) W
      rw [show (2 + (z : Int)).toNat = 2 + z by omega] at h
      exact h
    have HD2 := hide (Reads.drop_ R1.out hc' (l := 2 + z) (by omega))
    have HBody := hide (Reads.mid R1.out (l := 2) (z := z) (by omega))
    generalize A'.map (·.add 2) = XB at hs2 HBody
    generalize hXA : (if c' = 2 + z then A' else A'.map (·.add (2 + z))) = XA at hs3 HD2
    clear hXA
    have HO : Hid (∀ g, (Value.slice O q co).ownBlock = some g → w.heap.size ≤ g ∧ g < w1.heap.size) := hide (fun g hg => by
      obtain ⟨_, o, _⟩ := O1.out
      exact World.ownsRow.lt o g hg)
    have hown0 := Blk.own (base := w1.heap.size) (cap := 0) (Blk.new w1 5 #[]) (Nat.le_refl _) (Nat.zero_le _) rfl
    have hrb : Reads (w1.alloc (.cells #[] 5)) w.heap.size 1 XB z (bv ((d'.drop 2).take z)) := by
      rw [bv_take, bv_drop]
      exact HBody.out.alloc K1.out.size _
    go_wp2_with (at_builtin; (refine wpList_append_any _ rfl (.tmp 24) (.tmp 28) 22 rfl w1.heap.size 5 i0 _ 1 1 Try.underlying22 hi hz0 hz1 hz2 rfl (by omega) (.slice (some ⟨w1.heap.size, 0, none⟩) 0 0) 0 [] rfl hown0 w.heap.size XB z (c' - 2) (bv ((d'.drop 2).take z)) rfl hrb (bv_one _) ?a1 ?a2 ?a3 ?_))
    case a1 => unfold maxLen; omega
    case a2 => omega
    case a3 => simp
    intro u1 w2 hown1 hg1 hat1
    obtain ⟨X1, y1, rfl⟩ := own_slice hown1
    have K2 := hide (Below.grown (h := (Below.refl w1.heap.size w1).alloc (Nat.le_refl _) (.cells #[] 5)) (hg := hg1) (by simp) (fun g hg => (World.ownsRow.lt hown0 g hg).1))
    have FV := hide (FreshV.one hown1)
    obtain ⟨vs, o1, v1, ni⟩ := O1.out.below K2.out
    have V1 := hide v1
    have NI := hide ni
    have ho2 := o1.alloc (.cells #[.slice X1 z y1] 22)
    have hr2 := one_row w2 (.slice X1 z y1)
    have Q1 : Hid (Rd w2 X1 z ((d'.drop 2).take z)) := hide (Reads.of_own hown1)
    have hk2 := K2.out.size
    have hk1 := K1.out.size
    clear hown1 hg1 hat1 hrb hown0 o1 v1 ni
    go_wp2_with (at_builtin; (refine wpList_append_any _ rfl (.tmp 23) (.tmp 30) 26 rfl w.heap.size 22 iR _ 1 24 Try.underlying26 hiR hzR0 hzR1 hzR2 rfl (by omega) (.slice O q co) q vs rfl ho2 (w2.heap.size + 1) (some ⟨w2.heap.size, 0, none⟩) 1 1 [.slice X1 z y1] rfl hr2 (row_one _) ?b1 ?b2 ?b3 ?_))
    case b1 => unfold maxLen; omega
    case b2 => omega
    case b3 => simp; omega
    intro u2 w3 hown3 hg3 hat3
    obtain ⟨O3, co3, rfl⟩ := own_slice hown3
    have V1' : RowsV (w2.alloc (.cells #[.slice X1 z y1] 22)) (w2.alloc (.cells #[.slice X1 z y1] 22)).heap.size vs bs := (V1.out.keep (fun p hp => ((Below.refl w2.heap.size w2).alloc (Nat.le_refl _) (.cells #[.slice X1 z y1] 22)).cell hp)).more (by simp)
    have hv' : RowsV (w2.alloc (.cells #[.slice X1 z y1] 22)) (w2.alloc (.cells #[.slice X1 z y1] 22)).heap.size [.slice X1 z y1] [(d'.drop 2).take z] := by
      have h := RowsV.snoc (RowsV.nil (w2.alloc (.cells #[.slice X1 z y1] 22)) (w2.alloc (.cells #[.slice X1 z y1] 22)).heap.size) (v := .slice X1 z y1) (b := (d'.drop 2).take z) ⟨X1, z, y1, rfl, (Q1.out.alloc (Nat.le_refl _) _).more (by simp)⟩
      simpa using h
    have OU3 := hide (out_grow (wr := w1) (wy := w2.alloc (.cells #[.slice X1 z y1] 22)) (by simp; omega) (fun g hg => (HO.out g hg).2) V1' NI.out hv' FV.out hown3 hg3 (by simpa using hat3))
    have K3 := hide (Below.grown (h := (below_more K1.out (Nat.le_refl _) K2.out).alloc (by omega) (.cells #[.slice X1 z y1] 22)) (hg := hg3) (by simp; omega) (fun g hg => (HO.out g hg).1))
    clear hown3 hg3 hat3 V1' hv' hr2 ho2 V1 NI FV Q1 O1
    go_wp2
    go_roundw
    case rel =>
      refine ⟨XA, n' - (2 + z), c' - (2 + z), O3, q + 1, co3, d'.drop (2 + z), bs ++ [(d'.drop 2).take z], rfl, rfl, by omega, ?_, OU3.out, K3.out, by omega, ?_⟩
      · rw [bv_drop]; exact HD2.out.keep fun p hp => (K3.out.cell hp).trans (K1.out.cell hp).symm
      · rw [HJ.out, hN.out]; simp
    case measure =>
      show n' - (2 + z) < n'
      omega
end Go.Proofs.Ytgmpcgcmcheelaa
