/- The contract of (*scanner).token. -/
import Derived.Test.YtpfcfcbljkdkhaaDoorLexK
import Derived.Test.YtpfcfcbljkdkhaaDoorLexL
import Derived.Test.YtpfcfcbljkdkhaaDoorLexR
import Derived.Test.YtpfcfcbljkdkhaaDoorLexD
namespace Go.Proofs.YtpfcfcbljkdkhaaDoor
open Go.RowKit
set_option linter.unusedVariables false
theorem Rise.mem {p : LB} {hi : Nat} : ∀ (l : List K) (lo : Nat), Rise p lo l hi → ∀ k ∈ l, KOk p k
  | [], lo, h, k, hk => by cases hk
  | j :: r, lo, h, k, hk => by
    rcases List.mem_cons.1 hk with rfl | hk
    · exact h.2.1
    · exact Rise.mem r _ h.2.2 k hk
theorem SR.text {p : LB} {s : S} (h : SR p s) : ∀ t ∈ s.toks, t.text.length ≤ p.length := fun t ht => by
  have := (Rise.mem _ _ h.1 (key t) (List.mem_map_of_mem ht)).1
  simp only [key] at this
  omega
theorem ScAt.below {B : Nat} {w w' : World} {g : Nat} {p : LB} {s : S} (h : ScAt B w g p s) (hb : Below w.heap.size w w') : ScAt B w' g p s := by
  obtain ⟨A, m, k, A', m', k', hS⟩ := h
  exact ⟨A, m, k, A', m', k', hS.below hb⟩
set_option maxRecDepth 100000 in
set_option maxHeartbeats 8000000 in
theorem token_any (B g : Nat) (p : LB) (s : S) (w : World) (hl : p.length ≤ 100000) (hok : SOk p s) (hr : SR p s) (hi : s.at_ < p.length) (hstd : Std w) (h : ScAt B w g p s) (hBw : B ≤ w.heap.size) (hB0 : 0 < B) :
    Calls Tryd.prog 17 #[.pointer (some ⟨g, 0, none⟩)] w fun e w' => e = .returned (.bool (tokenS p s).2) ∧ ((tokenS p s).2 = true → ScAt B w' g p (tokenS p s).1) ∧ (∃ s', s'.fault = (tokenS p s).1.fault ∧ ScAt B w' g p s') ∧ Below B w w' := by
  have hat := hok.1
  have htl := hok.2.1
  have hT : tokenS p s = (if p.getD s.at_ 0 = 10 then docsS p (addS p s 4 1)
    else if 0 < operP (p.drop s.at_) then (addS p s 2 (operP (p.drop s.at_)), true)
    else if 0 < numP (p.drop s.at_) then (addS p s 3 (numP (p.drop s.at_)), true)
    else wordS p s) := rfl
  have ho := operP_le (p.drop s.at_)
  have hn := numP_le (p.drop s.at_)
  rw [List.length_drop] at ho hn
  obtain ⟨OUT, hOUT⟩ : ∃ O, tokenS p s = O := ⟨_, rfl⟩
  rw [hOUT] at hT ⊢
  have hsc := h
  obtain ⟨A, m, k, A', m', k', hS⟩ := hsc
  obtain ⟨⟨c0, c1, c2, c3, c4⟩, f0, f1, f2, f3, f4⟩ := hS.cells
  have hgl := hS.lt
  have hBg := hS.2.2.2
  have XA4 : Hid (∀ W, B ≤ W.heap.size → ScAt B W g p s → Calls Tryd.prog 18 #[.pointer (some ⟨g, 0, none⟩), .int .i64 4, .int .i64 1] W fun e w' => e = .returned (.tuple #[]) ∧ ScAt B w' g p (addS p s 4 1) ∧ Below B W w') := hide fun W hz hs => add_any B g p s 4 1 W hl (by omega) (by omega) (by omega) hz hs
  have XA2 : Hid (∀ W (nn : Nat), s.at_ + nn ≤ p.length → B ≤ W.heap.size → ScAt B W g p s → Calls Tryd.prog 18 #[.pointer (some ⟨g, 0, none⟩), .int .i64 2, .int .i64 (nn : Int)] W fun e w' => e = .returned (.tuple #[]) ∧ ScAt B w' g p (addS p s 2 nn) ∧ Below B W w') := hide fun W nn h2 hz hs => add_any B g p s 2 nn W hl (by omega) h2 (by omega) hz hs
  have XA3 : Hid (∀ W (nn : Nat), s.at_ + nn ≤ p.length → B ≤ W.heap.size → ScAt B W g p s → Calls Tryd.prog 18 #[.pointer (some ⟨g, 0, none⟩), .int .i64 3, .int .i64 (nn : Int)] W fun e w' => e = .returned (.tuple #[]) ∧ ScAt B w' g p (addS p s 3 nn) ∧ Below B W w') := hide fun W nn h2 hz hs => add_any B g p s 3 nn W hl (by omega) h2 (by omega) hz hs
  have XOp := hide (fun W (hs : Std W) => oper_any (p.drop s.at_) (by rw [List.length_drop]; omega) W hs)
  have XNum := hide (fun W => num_any (p.drop s.at_) (by rw [List.length_drop]; omega) W)
  have XWord := hide (fun W (hz : B ≤ W.heap.size) (hs : ScAt B W g p s) => word_any B g p s W hl hok hs hz)
  have XDocs : Hid (∀ W, B ≤ W.heap.size → ScAt B W g p (addS p s 4 1) → Calls Tryd.prog 32 #[.pointer (some ⟨g, 0, none⟩)] W fun e w' => e = .returned (.bool (docsS p (addS p s 4 1)).2) ∧ ((docsS p (addS p s 4 1)).2 = true → ScAt B w' g p (docsS p (addS p s 4 1)).1) ∧ (∃ s', s'.fault = (docsS p (addS p s 4 1)).1.fault ∧ ScAt B w' g p s') ∧ Below B W w') := hide fun W hz hs => by
    have h1 := addS_ok (k := 4) hok (Nat.le_refl 1) (by omega : s.at_ + 1 ≤ p.length)
    have h2 := addS_rise (k := 4) hr (by decide) (by omega : s.at_ + 1 ≤ p.length) (by simp)
    exact docs_any B g p (addS p s 4 1) W hl h1 hs hz (fun t ht => by have := h2.text t ht; omega)
  have hsl := sl_from p s.at_ (by omega)
  have hix0 : ∀ W, (Instr.index 9 (.string ⟨(p.drop s.at_).toArray⟩) (.int .i64 0)).run Tryd.prog W = .ok (.int .u8 ((p.getD s.at_ 0).toNat : Int)) W := by
    have := ix_l (p.drop s.at_) 0 ((p.drop s.at_).getD 0 0) (getD_some (by rw [List.length_drop]; omega))
    rw [drop_getD, Nat.add_zero] at this; exact this
  have t10 := u8_beq (p.getD s.at_ 0) 10
  change (((p.getD s.at_ 0).toNat : Int) == 10) = _ at t10
  have hk0 : (s.at_ : Int) ≤ (p.length : Int) := by omega
  have HH := hide h
  have HSTD := hide hstd
  have HT := hide hT
  obtain ⟨O1, hO1⟩ : ∃ O, docsS p (addS p s 4 1) = O := ⟨_, rfl⟩
  obtain ⟨O2, hO2⟩ : ∃ O, wordS p s = O := ⟨_, rfl⟩
  rw [hO1] at XDocs
  rw [hO2] at XWord
  have HO1 := hide hO1
  have HO2 := hide hO2
  clear hT h hstd hOUT hS hO1 hO2 hok hr
  generalize p.getD s.at_ 0 = c at *
  generalize hQ : p.drop s.at_ = Q at *
  generalize operP Q = op at *
  generalize numP Q = nm at *
  by_cases h1 : c = 10
  · have HE : Hid (OUT = O1) := hide (by rw [HT.out, if_pos h1, HO1.out])
    rw [beq_iff_eq.2 h1] at t10
    clear HT h1 XOp XNum XWord HO2 HO1
    go_enter Tryd.func17, Tryd.ntmps17
    go_wp2_with fail
    go_quiet (fail)
    go_wp2_with fail
    refine (XA4.out _ (by exact hBw) (by exact HH.out.below ⟨rfl, rfl, rfl, Nat.le_refl _, fun _ _ => rfl⟩)).mono ?_
    rintro e w1 ⟨rfl, hs1, hb1⟩
    have HS1 := hide hs1
    have HB1 : Hid (Below B w w1) := hide (Below.trans (belowN _ (Below.refl B w)) hb1)
    clear hs1 hb1
    go_wp2_with fail
    refine (XDocs.out _ (by have := HB1.out.size; omega) HS1.out).mono ?_
    rintro e w2 ⟨rfl, hs2, hs3, hb2⟩
    have HS2 := hide hs2
    have HS3 := hide hs3
    have HB2 : Hid (Below B w w2) := hide (HB1.out.trans hb2)
    clear hs2 hs3 hb2
    go_wp2_with fail
    go_ret
    exact ⟨by rw [HE.out]; rfl, by rw [HE.out]; exact HS2.out, by rw [HE.out]; exact HS3.out, HB2.out⟩
  rw [beq_eq_false_iff_ne.2 h1] at t10
  replace HT := hide (HT.out.trans (if_neg h1))
  clear h1 XDocs HO1
  by_cases h2 : 0 < op
  · have HE : Hid (OUT = (addS p s 2 op, true)) := hide (by rw [HT.out, if_pos h2])
    have hk2 : (0 : Int) < (op : Int) := by omega
    clear HT XNum XWord HO2 h2
    go_enter Tryd.func17, Tryd.ntmps17
    go_wp2_with fail
    go_quiet (fail)
    go_wp2_with fail
    refine (XOp.out _ (by exact HSTD.out.below ⟨rfl, rfl, rfl, Nat.le_refl _, fun _ _ => rfl⟩)).mono ?_
    rintro e w1 ⟨rfl, hb1⟩
    have hb2 : Below w.heap.size w w1 := ⟨hb1.os, hb1.tape, hb1.output, hb1.size, hb1.block⟩
    have HS1 : Hid (ScAt B w1 g p s) := hide (HH.out.below hb2)
    have HB1 : Hid (Below B w w1) := hide (hb2.mono hBw)
    clear hb2
    clear hb1
    go_wp2_with fail
    refine (XA2.out _ op (by omega) (by have := HB1.out.size; omega) HS1.out).mono ?_
    rintro e w2 ⟨rfl, hs2, hb2⟩
    have HS2 := hide hs2
    have HB2 : Hid (Below B w w2) := hide (HB1.out.trans hb2)
    clear hs2 hb2
    go_wp2_with fail
    go_ret
    exact ⟨by rw [HE.out]; rfl, by rw [HE.out]; exact fun _ => HS2.out, by rw [HE.out]; exact ⟨_, rfl, HS2.out⟩, HB2.out⟩
  have hk2 : ¬ (0 : Int) < (op : Int) := by omega
  replace HT := hide (HT.out.trans (if_neg h2))
  clear h2
  by_cases h3 : 0 < nm
  · have HE : Hid (OUT = (addS p s 3 nm, true)) := hide (by rw [HT.out, if_pos h3])
    have hk3 : (0 : Int) < (nm : Int) := by omega
    clear HT XWord HO2 h3
    go_enter Tryd.func17, Tryd.ntmps17
    go_wp2_with fail
    go_quiet (fail)
    go_wp2_with fail
    refine (XOp.out _ (by exact HSTD.out.below ⟨rfl, rfl, rfl, Nat.le_refl _, fun _ _ => rfl⟩)).mono ?_
    rintro e w1 ⟨rfl, hb1⟩
    have hb2 : Below w.heap.size w w1 := ⟨hb1.os, hb1.tape, hb1.output, hb1.size, hb1.block⟩
    have HS1 : Hid (ScAt B w1 g p s) := hide (HH.out.below hb2)
    have HB1 : Hid (Below B w w1) := hide (hb2.mono hBw)
    clear hb2
    clear hb1
    go_wp2_with fail
    refine (XNum.out _).mono ?_
    rintro e w2 ⟨rfl, rfl⟩
    go_wp2_with fail
    refine (XA3.out _ nm (by omega) (by have := HB1.out.size; omega) HS1.out).mono ?_
    rintro e w2 ⟨rfl, hs2, hb2⟩
    have HS2 := hide hs2
    have HB2 : Hid (Below B w w2) := hide (HB1.out.trans hb2)
    clear hs2 hb2
    go_wp2_with fail
    go_ret
    exact ⟨by rw [HE.out]; rfl, by rw [HE.out]; exact fun _ => HS2.out, by rw [HE.out]; exact ⟨_, rfl, HS2.out⟩, HB2.out⟩
  have hk3 : ¬ (0 : Int) < (nm : Int) := by omega
  have HE : Hid (OUT = O2) := hide (by rw [HT.out, if_neg h3, HO2.out])
  clear HT HO2 h3
  go_enter Tryd.func17, Tryd.ntmps17
  go_wp2_with fail
  go_quiet (fail)
  go_wp2_with fail
  refine (XOp.out _ (by exact HSTD.out.below ⟨rfl, rfl, rfl, Nat.le_refl _, fun _ _ => rfl⟩)).mono ?_
  rintro e w1 ⟨rfl, hb1⟩
  have hb2 : Below w.heap.size w w1 := ⟨hb1.os, hb1.tape, hb1.output, hb1.size, hb1.block⟩
  have HS1 : Hid (ScAt B w1 g p s) := hide (HH.out.below hb2)
  have HB1 : Hid (Below B w w1) := hide (hb2.mono hBw)
  clear hb2
  clear hb1
  go_wp2_with fail
  refine (XNum.out _).mono ?_
  rintro e w2 ⟨rfl, rfl⟩
  go_wp2_with fail
  refine (XWord.out _ (by have := HB1.out.size; omega) HS1.out).mono ?_
  rintro e w2 ⟨rfl, hs2, hb2⟩
  have HS2 := hide hs2
  have HB2 : Hid (Below B w w2) := hide (HB1.out.trans hb2)
  clear hs2 hb2
  go_wp2_with fail
  go_ret
  exact ⟨by rw [HE.out]; rfl, by rw [HE.out]; exact fun _ => HS2.out, by rw [HE.out]; exact ⟨_, rfl, HS2.out⟩, HB2.out⟩
end Go.Proofs.YtpfcfcbljkdkhaaDoor
