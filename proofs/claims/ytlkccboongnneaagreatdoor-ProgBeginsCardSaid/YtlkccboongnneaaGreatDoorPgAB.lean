/- What a child writes in so many rounds. -/
import Derived.Test.YtlkccboongnneaaGreatDoorPgAA
namespace Go.Proofs.YtlkccboongnneaaGreatDoor
open Go.RowKit
set_option linter.unusedVariables false
theorem put10 {w : World} {g : Nat} {t : TypeId} {c0 c1 c2 c3 c4 c5 c6 c7 c8 c9 : Value} (h : Blk w g t #[c0, c1, c2, c3, c4, c5, c6, c7, c8, c9]) (a0 a1 a2 a3 a4 a5 a6 a7 a8 a9 : Value) :
    Blk ((((((((((w.setCell ⟨g, 0, none⟩ a0).setCell ⟨g, 1, none⟩ a1).setCell ⟨g, 2, none⟩ a2).setCell ⟨g, 3, none⟩ a3).setCell ⟨g, 4, none⟩ a4).setCell ⟨g, 5, none⟩ a5).setCell ⟨g, 6, none⟩ a6).setCell ⟨g, 7, none⟩ a7).setCell ⟨g, 8, none⟩ a8).setCell ⟨g, 9, none⟩ a9) g t #[a0, a1, a2, a3, a4, a5, a6, a7, a8, a9] := by
  have := ((((((((((h.set_ 0 a0).set_ 1 a1).set_ 2 a2).set_ 3 a3).set_ 4 a4).set_ 5 a5).set_ 6 a6).set_ 7 a7).set_ 8 a8).set_ 9 a9)
  simpa using this
theorem ranP_end {at_ f : Nat} {q : PR} {out : Bs} {ps : List Bs} {st : Int} (hN : nextP q = ⟨3, 0, 0, [], st⟩) : ranP at_ (f + 1) q out ps = (out, st, true) := by
  rw [ranP, hN]; dsimp only; rw [if_pos rfl]
theorem ranP_write {at_ f : Nat} {q : PR} {out : Bs} {ps : List Bs} {b : Bs} (hN : nextP q = ⟨2, 1, 0, b, 0⟩) : ranP at_ (f + 1) q out ps = ranP at_ f (afterP q (min b.length at_) []) (out ++ b.take (min b.length at_)) ps := by
  rw [ranP, hN]; dsimp only; rw [if_neg (by decide), if_pos rfl]
theorem ranP_read {at_ f : Nat} {q : PR} {out : Bs} {ps : List Bs} (hN : nextP q = ⟨1, 0, 16, [], 0⟩) : ranP at_ (f + 1) q out ps = ranP at_ f (afterP q 0 (ps.headD [])) out ps.tail := by
  rw [ranP, hN]; dsimp only; rw [if_neg (by decide), if_neg (by decide)]
theorem nextP_cases (q : PR) : (∃ st, nextP q = ⟨3, 0, 0, [], st⟩) ∨ (nextP q = ⟨2, 1, 0, (begun q).buf, 0⟩) ∨ nextP q = ⟨1, 0, 16, [], 0⟩ := by
  unfold nextP
  split
  · exact .inl ⟨_, rfl⟩
  split
  · exact .inr (.inl rfl)
  · exact .inr (.inr rfl)
theorem ranP_true {at_ : Nat} : ∀ (f : Nat) (q : PR) (out : Bs) (ps : List Bs), (ranP at_ f q out ps).2.2 = true := by
  intro f
  induction f with
  | zero => intro q out ps; rfl
  | succ f ih =>
    intro q out ps
    rcases nextP_cases q with ⟨st, h⟩ | h | h
    · rw [ranP_end h]
    · rw [ranP_write h]; exact ih _ _ _
    · rw [ranP_read h]; exact ih _ _ _
/-- A child's slices do not lie in block g. -/
def RowsOk (g : Nat) (w : World) (q : PR) (s : PS) : Prop := InP w g q s ∨ OwP (g + 1) w q s
theorem RowsOk.in_ {g : Nat} {w : World} {q : PR} {s : PS} (h : RowsOk g w q s) (hg : g ≤ w.heap.size) : InP w w.heap.size q s := by
  rcases h with h | h
  · exact h.more hg
  · exact h.in_
theorem RowsOk.below {g : Nat} {w w' : World} {q : PR} {s : PS} (h : RowsOk g w q s) (hg : g ≤ w.heap.size) (hb : Below w.heap.size w w') : RowsOk g w' q s := by
  rcases h with h | h
  · exact .inl (h.below (hb.mono hg))
  · exact .inr (h.below hb)
theorem InP.lens {w : World} {B : Nat} {p : PR} {s : PS} (h : InP w B p s) (hf : FitP p) : s.an ≤ 1000000 ∧ s.en ≤ 1000000 ∧ s.fn ≤ 1000000 ∧ s.dn ≤ 1000000 := by
  have h1 := rd_lenS h.a
  have h2 := rd_lenS h.e
  have h3 := rd_lenI h.f
  have h4 := h.d.1
  simp [bv] at h4
  have := hf.a; have := hf.e; have := hf.f; have := hf.d
  omega
theorem put_all {w0 w4 : World} {g : Nat} {q q1 : PR} {z z1 : PS} (hG : Blk w4 g 26 #[Value.int .i64 q.pid, .string ⟨q.prog.toArray⟩, .slice z.A z.an z.ac, .slice z.E z.en z.ec, .slice z.F z.fn z.fc, .bool q.done, .int .i64 q.status, .int .i64 q.phase, .int .i64 q.count, .slice z.D z.dn z.dc]) (hO : OwP (g + 1) w4 q1 z1) (hB : Below g w0 w4) :
    Blk ((((((((((w4.setCell ⟨g, 0, none⟩ (.int .i64 q1.pid)).setCell ⟨g, 1, none⟩ (.string ⟨q1.prog.toArray⟩)).setCell ⟨g, 2, none⟩ (.slice z1.A z1.an z1.ac)).setCell ⟨g, 3, none⟩ (.slice z1.E z1.en z1.ec)).setCell ⟨g, 4, none⟩ (.slice z1.F z1.fn z1.fc)).setCell ⟨g, 5, none⟩ (.bool q1.done)).setCell ⟨g, 6, none⟩ (.int .i64 q1.status)).setCell ⟨g, 7, none⟩ (.int .i64 q1.phase)).setCell ⟨g, 8, none⟩ (.int .i64 q1.count)).setCell ⟨g, 9, none⟩ (.slice z1.D z1.dn z1.dc)) g 26 #[Value.int .i64 q1.pid, .string ⟨q1.prog.toArray⟩, .slice z1.A z1.an z1.ac, .slice z1.E z1.en z1.ec, .slice z1.F z1.fn z1.fc, .bool q1.done, .int .i64 q1.status, .int .i64 q1.phase, .int .i64 q1.count, .slice z1.D z1.dn z1.dc] ∧ RowsOk g ((((((((((w4.setCell ⟨g, 0, none⟩ (.int .i64 q1.pid)).setCell ⟨g, 1, none⟩ (.string ⟨q1.prog.toArray⟩)).setCell ⟨g, 2, none⟩ (.slice z1.A z1.an z1.ac)).setCell ⟨g, 3, none⟩ (.slice z1.E z1.en z1.ec)).setCell ⟨g, 4, none⟩ (.slice z1.F z1.fn z1.fc)).setCell ⟨g, 5, none⟩ (.bool q1.done)).setCell ⟨g, 6, none⟩ (.int .i64 q1.status)).setCell ⟨g, 7, none⟩ (.int .i64 q1.phase)).setCell ⟨g, 8, none⟩ (.int .i64 q1.count)).setCell ⟨g, 9, none⟩ (.slice z1.D z1.dn z1.dc)) q1 z1 ∧ Below g w0 ((((((((((w4.setCell ⟨g, 0, none⟩ (.int .i64 q1.pid)).setCell ⟨g, 1, none⟩ (.string ⟨q1.prog.toArray⟩)).setCell ⟨g, 2, none⟩ (.slice z1.A z1.an z1.ac)).setCell ⟨g, 3, none⟩ (.slice z1.E z1.en z1.ec)).setCell ⟨g, 4, none⟩ (.slice z1.F z1.fn z1.fc)).setCell ⟨g, 5, none⟩ (.bool q1.done)).setCell ⟨g, 6, none⟩ (.int .i64 q1.status)).setCell ⟨g, 7, none⟩ (.int .i64 q1.phase)).setCell ⟨g, 8, none⟩ (.int .i64 q1.count)).setCell ⟨g, 9, none⟩ (.slice z1.D z1.dn z1.dc)) := by
  refine ⟨put10 hG _ _ _ _ _ _ _ _ _ _, .inr ?_, ?_⟩
  · repeat (refine OwP.far ?_ (by simp) _)
    exact hO
  · repeat (refine Below.setCell ?_ (by simp) _)
    exact hB
def atN (a : Int) : Nat := (max 1 a).toNat
set_option maxRecDepth 100000 in
set_option maxHeartbeats 16000000 in
theorem ran_any (p : PR) (s : PS) (L : Option Addr) (n c : Nat) (ps : List Bs) (at_ : Int) (w : World) (hI : InP w w.heap.size p s) (hf : FitP p) (hS : StB w.heap.size w) (hj : (Lib.join p.args.tail [32]).length ≤ 400000) (ht : toldB p.prog) (hy : p.prog ≠ nYes)
    (hR : RowsP w L n ps) (hok : AllOk ps) (hn : n ≤ 20) (hat : i64R at_) :
    Calls Tryz.prog 17 #[p.v s, .slice L n c, .int .i64 at_] w fun e w' => e = .returned (.tuple #[.string ⟨(ranP (atN at_) 400 p [] ps).1.toArray⟩, .int .i64 (ranP (atN at_) 400 p [] ps).2.1, .bool true]) ∧ Below w.heap.size w w' := by
  obtain ⟨R, hRan⟩ : ∃ R, ranP (atN at_) 400 p [] ps = R := ⟨_, rfl⟩
  rw [hRan]
  have HRan := hide hRan
  have hR3 : R.2.2 = true := by rw [← hRan]; exact ranP_true _ _ _ _
  have HR3 := hide hR3
  have hat1 : 1 ≤ atN at_ := by unfold atN; omega
  have hmx : max 1 at_ = (atN at_ : Int) := by unfold atN; omega
  obtain ⟨at1, hat2⟩ : ∃ a, atN at_ = a := ⟨_, rfl⟩
  rw [hat2] at hRan hat1 hmx
  have HI := hide hI
  have HF := hide hf
  have HS := hide hS
  have HJ := hide hj
  have HT := hide ht
  have HY := hide hy
  have HRR := hide hR
  have HOK := hide hok
  have HRan2 := hide hRan
  clear hI hf hS hj ht hy hR hok hat hR3 hRan hat2
  rw [show p.v s = .agg #[Value.int .i64 p.pid, .string ⟨p.prog.toArray⟩, .slice s.A s.an s.ac, .slice s.E s.en s.ec, .slice s.F s.fn s.fc, .bool p.done, .int .i64 p.status, .int .i64 p.phase, .int .i64 p.count, .slice s.D s.dn s.dc] from rfl]
  go_enter Tryz.func17, Tryz.ntmps17
  go_wp2_with fail
  go_loopw [9, 10, 11] (fun u9 u10 u11 wx => ∃ (i k : Nat) (q : PR) (z : PS) (out : Bs), i ≤ 400 ∧ k ≤ n ∧ u11 = .int .i64 (i : Int) ∧ u10 = .int .i64 (k : Int) ∧ u9 = .string ⟨out.toArray⟩ ∧ Hid (out.length ≤ 500000 * i) ∧ Hid (Blk wx w.heap.size 26 #[Value.int .i64 q.pid, .string ⟨q.prog.toArray⟩, .slice z.A z.an z.ac, .slice z.E z.en z.ec, .slice z.F z.fn z.fc, .bool q.done, .int .i64 q.status, .int .i64 q.phase, .int .i64 q.count, .slice z.D z.dn z.dc]) ∧ Hid (RowsOk w.heap.size wx q z) ∧ Hid (FitP q) ∧ Hid (q.prog = p.prog ∧ q.args = p.args) ∧ Hid (ranP at1 (400 - i) q out (ps.drop k) = R) ∧ Hid (Below w.heap.size w wx)) (fun _ _ i _ => 400 - (intOf i).toNat)
  case atStart =>
    exact ⟨0, 0, p, s, [], by omega, Nat.zero_le _, rfl, rfl, rfl, hide (by simp), hide (Blk.new w 26 _), hide (.inl (HI.out.below ((Below.refl _ _).alloc (Nat.le_refl _) _))), HF, hide ⟨rfl, rfl⟩, HRan2, hide ((Below.refl _ _).alloc (Nat.le_refl _) _)⟩
  case round =>
    obtain ⟨i, k, q, z, out, hi, hk, rfl, rfl, rfl, HOL, HG, HW, HFQ, HQP, HRQ, HB⟩ := hrel
    have hgs : w.heap.size < wr.heap.size := HG.out.lt
    obtain ⟨⟨c0, c1, c2, c3, c4, c5, c6, c7, c8, c9⟩, f0, f1, f2, f3, f4, f5, f6, f7, f8, f9⟩ := ten HG.out
    by_cases hi4 : i = 400
    · subst hi4
      have HE : Hid (R = (out, -1, true)) := hide HRQ.out.symm
      clear HRan HRan2 HRQ
      go_wp2_with fail
      go_ret3
      exact ⟨by rw [HE.out]; rfl, HB.out⟩
    · have hlt : (i : Int) < 400 := by omega
      have hilt : i < 400 := by omega
      obtain ⟨f, hf4⟩ : ∃ f, 400 - i = f + 1 := ⟨400 - i - 1, by omega⟩
      have hf5 : 400 - (i + 1) = f := by omega
      have HF5 := hide hf5
      have hol : out.length ≤ 200000000 := by have := HOL.out; omega
      have HRF : Hid (ranP at1 (f + 1) q out (ps.drop k) = R) := hide (by have := HRQ.out; rwa [hf4] at this)
      have hjq : (Lib.join q.args.tail [32]).length ≤ 400000 := by rw [HQP.out.2]; exact HJ.out
      have htq : toldB q.prog := by rw [HQP.out.1]; exact HT.out
      have hyq : q.prog ≠ nYes := by rw [HQP.out.1]; exact HY.out
      have hInq := HW.out.in_ (Nat.le_of_lt hgs)
      have HSr := hide ((HS.out.keep HB.out).more (Nat.le_of_lt hgs))
      have XN0 := next_any q z wr hInq (hInq.lens HFQ.out) HFQ.out HSr.out hjq htq
      simp only [PR.v, PR.cells] at XN0
      have XN := hide XN0
      have HJQ := hide hjq
      have HTQ := hide htq
      have HYQ := hide hyq
      clear XN0 hInq hf4 hf5 hjq htq hyq HRQ HRan HRan2 hi4
      go_wp2_with fail
      refine XN.out.mono ?_
      rintro e w2 ⟨D, dn, dc, rfl, hD, hdc, hb⟩
      have HG2 := hide (HG.out.below hb hgs)
      have HW2 := hide (HW.out.below (Nat.le_of_lt hgs) hb)
      have HB2 := hide (HB.out.trans (hb.mono (Nat.le_of_lt hgs)))
      have HS2 := hide (HSr.out.keep hb)
      have hg2 : w.heap.size < w2.heap.size := HG2.out.lt
      have HSZ := hide hb.size
      clear hb XN HG HW HB HSr c0 c1 c2 c3 c4 c5 c6 c7 c8 c9 f0 f1 f2 f3 f4 f5 f6 f7 f8 f9
      obtain ⟨⟨c0, c1, c2, c3, c4, c5, c6, c7, c8, c9⟩, f0, f1, f2, f3, f4, f5, f6, f7, f8, f9⟩ := ten HG2.out
      rcases nextP_cases q with ⟨st, hN⟩ | hN | hN
      · rw [hN] at hD ⊢
        have HE : Hid (R = (out, st, true)) := hide (by rw [← HRF.out, ranP_end hN])
        clear hD hN HRF
        go_wp2_with fail
        go_quiet (fail)
        go_wp2_with fail
        go_ret3
        exact ⟨by rw [HE.out]; rfl, (HB2.out.alloc (Nat.le_of_lt hg2) _).trans (bdr _ _ _)⟩
      · obtain ⟨b, hbu⟩ : ∃ b, (begun q).buf = b := ⟨_, rfl⟩
        have hbl5 : b.length ≤ 500000 := by rw [← hbu]; exact (HFQ.out.begun HJQ.out).d
        rw [hN] at hD ⊢
        dsimp only at hD
        rw [hbu] at hD hN
        have hbl : b.length = dn := by have := hD.1; simp [bv] at this; exact this
        have HN := hide hN
        obtain ⟨N, hNN⟩ : ∃ N, min dn at1 = N := ⟨_, rfl⟩
        have hmn : min (dn : Int) (at1 : Int) = (N : Int) := by omega
        have HMN : Hid (min b.length at1 = N) := hide (by rw [hbl]; exact hNN)
        have hNd : N ≤ dn := by omega
        have hs : ∀ W, (Instr.slice 24 (.slice D dn dc) none (some (.int .i64 (N : Int))) none).run Tryz.prog W = .ok (.slice D N dc) W := fun W => by
          have := run_slice_to 24 5 Tryz.underlying24 sizeU8 D dn dc .i64 (N : Int) (by omega) (by omega) W
          simpa using this
        have htk := hD.take hNd
        rw [← bv_take] at htk
        have hcv := run_string_of (P := Tryz.prog) (w2.alloc (.cells #[.int .i64 2, .int .i64 1, .int .i64 0, .slice D dn dc, .int .i64 0] 53)) (w2.alloc (.cells #[.int .i64 2, .int .i64 1, .int .i64 0, .slice D dn dc, .int .i64 0] 53)).heap.size 24 9 5 D N dc (b.take N) Tryz.underlying24 Tryz.underlying5 Tryz.underlying9 (htk.alloc (Nat.le_refl _) _ |>.more (by simp))
        have htl : (b.take N).length ≤ 500000 := by simp; omega
        have HG3 := hide (HG2.out.alloc (.cells #[.int .i64 2, .int .i64 1, .int .i64 0, .slice D dn dc, .int .i64 0] 53))
        have HW3 := hide (HW2.out.below (Nat.le_of_lt hg2) ((Below.refl _ _).alloc (Nat.le_refl _) (.cells #[.int .i64 2, .int .i64 1, .int .i64 0, .slice D dn dc, .int .i64 0] 53)))
        have HB3 := hide (HB2.out.alloc (Nat.le_of_lt hg2) (.cells #[.int .i64 2, .int .i64 1, .int .i64 0, .slice D dn dc, .int .i64 0] 53))
        have HS3 := hide (((HS2.out.keep ((Below.refl _ _).alloc HSZ.out (.cells #[.int .i64 2, .int .i64 1, .int .i64 0, .slice D dn dc, .int .i64 0] 53))).more (show wr.heap.size ≤ (w2.alloc (.cells #[.int .i64 2, .int .i64 1, .int .i64 0, .slice D dn dc, .int .i64 0] 53)).heap.size by simp; have := HSZ.out; omega)))
        have hsz3 : (w2.alloc (.cells #[.int .i64 2, .int .i64 1, .int .i64 0, .slice D dn dc, .int .i64 0] 53)).heap.size = w2.heap.size + 1 := by simp
        have hIn3 := HW3.out.in_ (show w.heap.size ≤ (w2.alloc (.cells #[.int .i64 2, .int .i64 1, .int .i64 0, .slice D dn dc, .int .i64 0] 53)).heap.size by rw [hsz3]; omega)
        have XA0 := after_any q z N none 0 0 [] (w2.alloc (.cells #[.int .i64 2, .int .i64 1, .int .i64 0, .slice D dn dc, .int .i64 0] 53)) hIn3 (hIn3.lens HFQ.out) HFQ.out HS3.out HJQ.out HTQ.out ⟨rfl, fun h => absurd h (by omega)⟩ (by omega) (by omega) HYQ.out
        have hsame := after_same q N []
        have hfit := HFQ.out.after HJQ.out N (d := []) (by simp)
        obtain ⟨q1, hq1⟩ : ∃ x, afterP q N [] = x := ⟨_, rfl⟩
        rw [hq1] at XA0 hsame hfit
        unfold AfterEnd at XA0
        simp only [PR.v, PR.cells] at XA0
        have XA := hide XA0
        have HSM := hide hsame
        have HFT := hide hfit
        have HQ1 := hide hq1
        clear XA0 hIn3 hsame hfit hq1 hsz3
        obtain ⟨bt, hbt⟩ : ∃ x, b.take N = x := ⟨_, rfl⟩
        rw [hbt] at hcv htl
        have HBT := hide hbt
        clear hD hbl hN hNN htk hbu hbt hbl5
        go_wp2_with fail
        refine XA.out.mono ?_
        rintro e w4 ⟨z1, rfl, ho, hb⟩
        have HG4 := hide (HG3.out.below hb (by simp; omega))
        have HO4 := hide (ho.more (show w.heap.size + 1 ≤ (w2.alloc (.cells #[.int .i64 2, .int .i64 1, .int .i64 0, .slice D dn dc, .int .i64 0] 53)).heap.size by simp; omega))
        have HB4 := hide (HB3.out.trans (hb.mono (by simp; omega)))
        have hg4 : w.heap.size < w4.heap.size := HG4.out.lt
        clear ho hb XA HG3 HB3 HW3 HS3 HG2 HB2 HW2 HS2 c0 c1 c2 c3 c4 c5 c6 c7 c8 c9 f0 f1 f2 f3 f4 f5 f6 f7 f8 f9
        obtain ⟨⟨c0, c1, c2, c3, c4, c5, c6, c7, c8, c9⟩, f0, f1, f2, f3, f4, f5, f6, f7, f8, f9⟩ := ten HG4.out
        go_wp2_with fail
        go_roundw
        case rel =>
          obtain ⟨hP1, hP2, hP3⟩ := put_all HG4.out HO4.out HB4.out
          refine ⟨i + 1, k, q1, z1, out ++ bt, by omega, hk, by simp, rfl, by rw [catB], hide (by have := HOL.out; simp; omega), hide hP1, hide hP2, HFT, hide ⟨HSM.out.1.trans HQP.out.1, HSM.out.2.trans HQP.out.2⟩, hide (by rw [HF5.out, ← HRF.out, ranP_write HN.out, HMN.out, HQ1.out, HBT.out]), hide hP3⟩
        case measure => simp [intOf]; omega
      · rw [hN] at hD ⊢
        have HN := hide hN
        clear hD hN
        by_cases hkn : k = n
        · subst hkn
          have HHD : Hid ((ps.drop k).headD [] = []) := hide (by rw [List.drop_eq_nil_of_le (by rw [HRR.out.1]; exact Nat.le_refl _)]; rfl)
          have HTL : Hid ((ps.drop k).tail = ps.drop k) := hide (by rw [List.drop_eq_nil_of_le (by rw [HRR.out.1]; exact Nat.le_refl _)]; rfl)
          have HG3 := hide (HG2.out.alloc (.cells #[.int .i64 1, .int .i64 0, .int .i64 16, .slice D dn dc, .int .i64 0] 53))
          have HW3 := hide (HW2.out.below (Nat.le_of_lt hg2) ((Below.refl _ _).alloc (Nat.le_refl _) (.cells #[.int .i64 1, .int .i64 0, .int .i64 16, .slice D dn dc, .int .i64 0] 53)))
          have HB3 := hide (HB2.out.alloc (Nat.le_of_lt hg2) (.cells #[.int .i64 1, .int .i64 0, .int .i64 16, .slice D dn dc, .int .i64 0] 53))
          have HS3 := hide (((HS2.out.keep ((Below.refl _ _).alloc HSZ.out (.cells #[.int .i64 1, .int .i64 0, .int .i64 16, .slice D dn dc, .int .i64 0] 53))).more (show wr.heap.size ≤ (w2.alloc (.cells #[.int .i64 1, .int .i64 0, .int .i64 16, .slice D dn dc, .int .i64 0] 53)).heap.size by simp; have := HSZ.out; omega)))
          have hsz3 : (w2.alloc (.cells #[.int .i64 1, .int .i64 0, .int .i64 16, .slice D dn dc, .int .i64 0] 53)).heap.size = w2.heap.size + 1 := by simp
          have hIn3 := HW3.out.in_ (show w.heap.size ≤ (w2.alloc (.cells #[.int .i64 1, .int .i64 0, .int .i64 16, .slice D dn dc, .int .i64 0] 53)).heap.size by rw [hsz3]; omega)
          have XA0 := after_any q z 0 none 0 0 [] (w2.alloc (.cells #[.int .i64 1, .int .i64 0, .int .i64 16, .slice D dn dc, .int .i64 0] 53)) hIn3 (hIn3.lens HFQ.out) HFQ.out HS3.out HJQ.out HTQ.out ⟨rfl, fun h => absurd h (by omega)⟩ (by omega) (by omega) HYQ.out
          have hsame := after_same q 0 []
          have hfit := HFQ.out.after HJQ.out 0 (d := []) (by simp)
          obtain ⟨q1, hq1⟩ : ∃ x, afterP q 0 [] = x := ⟨_, rfl⟩
          rw [hq1] at XA0 hsame hfit
          unfold AfterEnd at XA0
          simp only [PR.v, PR.cells] at XA0
          have XA := hide XA0
          have HSM := hide hsame
          have HFT := hide hfit
          have HQ1 := hide hq1
          clear XA0 hIn3 hsame hfit hq1 hsz3
          go_wp2_with fail
          refine XA.out.mono ?_
          rintro e w4 ⟨z1, rfl, ho, hb⟩
          have HG4 := hide (HG3.out.below hb (by simp; omega))
          have HO4 := hide (ho.more (show w.heap.size + 1 ≤ (w2.alloc (.cells #[.int .i64 1, .int .i64 0, .int .i64 16, .slice D dn dc, .int .i64 0] 53)).heap.size by simp; omega))
          have HB4 := hide (HB3.out.trans (hb.mono (by simp; omega)))
          have hg4 : w.heap.size < w4.heap.size := HG4.out.lt
          clear ho hb XA HG3 HB3 HW3 HS3 HG2 HB2 HW2 HS2 c0 c1 c2 c3 c4 c5 c6 c7 c8 c9 f0 f1 f2 f3 f4 f5 f6 f7 f8 f9
          obtain ⟨⟨c0, c1, c2, c3, c4, c5, c6, c7, c8, c9⟩, f0, f1, f2, f3, f4, f5, f6, f7, f8, f9⟩ := ten HG4.out
          go_wp2_with fail
          go_roundw
          case rel =>
            obtain ⟨hP1, hP2, hP3⟩ := put_all HG4.out HO4.out HB4.out
            refine ⟨i + 1, k, q1, z1, out, by omega, by omega, by simp, rfl, rfl, hide (by have := HOL.out; omega), hide hP1, hide hP2, HFT, hide ⟨HSM.out.1.trans HQP.out.1, HSM.out.2.trans HQP.out.2⟩, hide (by rw [HF5.out, ← HRF.out, ranP_read HN.out, HTL.out, HHD.out, HQ1.out]), hide hP3⟩
          case measure => simp [intOf]; omega
        · have hkl : (k : Int) < (n : Int) := by omega
          obtain ⟨b, hb5⟩ : ∃ b, ps[k]? = some b := ⟨_, List.getElem?_eq_getElem (by rw [HRR.out.1]; omega)⟩
          have hb16 : b.length ≤ 16 := (HOK.out b (List.mem_of_getElem? hb5)).2
          obtain ⟨g5, o5, A5, n5, x5, rfl, hg5, hc5, hqc5, hr5⟩ := ((HRR.out.below (HB2.out)).2 k b hb5)
          have hn5 : n5 ≤ 16 := by have := hr5.1; simp [bv] at this; omega
          have HR5 := hide hr5
          have hk2 : k < ps.length := by rw [HRR.out.1]; omega
          have hbk : ps[k] = b := by rw [List.getElem?_eq_getElem hk2] at hb5; injection hb5
          have HHD : Hid ((ps.drop k).headD [] = b) := hide (by rw [List.drop_eq_getElem_cons hk2, hbk]; rfl)
          have HTL : Hid ((ps.drop k).tail = ps.drop (k + 1)) := hide (by rw [List.drop_eq_getElem_cons hk2]; rfl)
          have hc6 : (w2.alloc (.cells #[.int .i64 1, .int .i64 0, .int .i64 16, .slice D dn dc, .int .i64 0] 53)).cell? ⟨g5, o5 + k, none⟩ = some (.slice A5 n5 x5) := (World.cell?_alloc_lt _ _ _ (by exact hg5)).trans hc5
          clear hr5 hb5 hk2 hbk
          have HG3 := hide (HG2.out.alloc (.cells #[.int .i64 1, .int .i64 0, .int .i64 16, .slice D dn dc, .int .i64 0] 53))
          have HW3 := hide (HW2.out.below (Nat.le_of_lt hg2) ((Below.refl _ _).alloc (Nat.le_refl _) (.cells #[.int .i64 1, .int .i64 0, .int .i64 16, .slice D dn dc, .int .i64 0] 53)))
          have HB3 := hide (HB2.out.alloc (Nat.le_of_lt hg2) (.cells #[.int .i64 1, .int .i64 0, .int .i64 16, .slice D dn dc, .int .i64 0] 53))
          have HS3 := hide (((HS2.out.keep ((Below.refl _ _).alloc HSZ.out (.cells #[.int .i64 1, .int .i64 0, .int .i64 16, .slice D dn dc, .int .i64 0] 53))).more (show wr.heap.size ≤ (w2.alloc (.cells #[.int .i64 1, .int .i64 0, .int .i64 16, .slice D dn dc, .int .i64 0] 53)).heap.size by simp; have := HSZ.out; omega)))
          have hsz3 : (w2.alloc (.cells #[.int .i64 1, .int .i64 0, .int .i64 16, .slice D dn dc, .int .i64 0] 53)).heap.size = w2.heap.size + 1 := by simp
          have hIn3 := HW3.out.in_ (show w.heap.size ≤ (w2.alloc (.cells #[.int .i64 1, .int .i64 0, .int .i64 16, .slice D dn dc, .int .i64 0] 53)).heap.size by rw [hsz3]; omega)
          have XA0 := after_any q z 0 A5 n5 x5 b (w2.alloc (.cells #[.int .i64 1, .int .i64 0, .int .i64 16, .slice D dn dc, .int .i64 0] 53)) hIn3 (hIn3.lens HFQ.out) HFQ.out HS3.out HJQ.out HTQ.out ((HR5.out.alloc (Nat.le_refl _) _).more (by simp)) (by omega) (by omega) HYQ.out
          have hsame := after_same q 0 b
          have hfit := HFQ.out.after HJQ.out 0 (d := b) (by omega)
          obtain ⟨q1, hq1⟩ : ∃ x, afterP q 0 b = x := ⟨_, rfl⟩
          rw [hq1] at XA0 hsame hfit
          unfold AfterEnd at XA0
          simp only [PR.v, PR.cells] at XA0
          have XA := hide XA0
          have HSM := hide hsame
          have HFT := hide hfit
          have HQ1 := hide hq1
          clear XA0 hIn3 hsame hfit hq1 hsz3
          go_wp2_with fail
          refine XA.out.mono ?_
          rintro e w4 ⟨z1, rfl, ho, hb⟩
          have HG4 := hide (HG3.out.below hb (by simp; omega))
          have HO4 := hide (ho.more (show w.heap.size + 1 ≤ (w2.alloc (.cells #[.int .i64 1, .int .i64 0, .int .i64 16, .slice D dn dc, .int .i64 0] 53)).heap.size by simp; omega))
          have HB4 := hide (HB3.out.trans (hb.mono (by simp; omega)))
          have hg4 : w.heap.size < w4.heap.size := HG4.out.lt
          clear ho hb XA HG3 HB3 HW3 HS3 HG2 HB2 HW2 HS2 c0 c1 c2 c3 c4 c5 c6 c7 c8 c9 f0 f1 f2 f3 f4 f5 f6 f7 f8 f9
          obtain ⟨⟨c0, c1, c2, c3, c4, c5, c6, c7, c8, c9⟩, f0, f1, f2, f3, f4, f5, f6, f7, f8, f9⟩ := ten HG4.out
          go_wp2_with fail
          go_roundw
          case rel =>
            obtain ⟨hP1, hP2, hP3⟩ := put_all HG4.out HO4.out HB4.out
            refine ⟨i + 1, k + 1, q1, z1, out, by omega, by omega, by simp, by simp, rfl, hide (by have := HOL.out; omega), hide hP1, hide hP2, HFT, hide ⟨HSM.out.1.trans HQP.out.1, HSM.out.2.trans HQP.out.2⟩, hide (by rw [HF5.out, ← HRF.out, ranP_read HN.out, HTL.out, HHD.out, HQ1.out]), hide hP3⟩
          case measure => simp [intOf]; omega
end Go.Proofs.YtlkccboongnneaaGreatDoor
