/- proto.input: number, integer, text, data. -/
import Derived.Test.YtedacfjkbfgikaaPrI
import Derived.Lib.Strings
namespace Go.Proofs.Ytedacfjkbfgikaa
open Go.RowKit
set_option linter.unusedVariables false
set_option maxRecDepth 10000 in
theorem shl_shr (n : Nat) (hn : n < 4294967296) : wrap64 ((n : Int) * 4294967296) / 4294967296 = wrap32 (n : Int) := by
  unfold wrap32 Int.bmod wrap64
  dsimp only
  rw [show ((4294967296 : Nat) : Int) = 4294967296 from rfl]
  split <;> omega
set_option maxRecDepth 100000 in
set_option maxHeartbeats 4000000 in
theorem wrap_any (n : Nat) (w : World) (hn : n < 4294967296) :
    Calls Try.prog 91 #[.int .i64 (n : Int), .int .i64 32] w fun e w' => e = .returned (.int .i64 (wrap32 (n : Int))) ∧ w = w' := by
  go_enter Try.func91, Try.ntmps91
  go_wp2_with fail
  go_ret
  exact ⟨by rw [shl_shr n hn]; rfl, rfl⟩
theorem takeS_le (k : Nat) (st : St) : (takeS k st).1.length ≤ k ∧ ((takeS k st).1.length = k ∨ (takeS k st).1 = []) := by
  unfold takeS
  split
  · exact ⟨Nat.zero_le _, .inr rfl⟩
  · rename_i h
    have h2 : ¬ st.1.length < k := fun x => h (.inr x)
    refine ⟨?_, .inl ?_⟩ <;> simp <;> omega
set_option maxRecDepth 100000 in
set_option maxHeartbeats 4000000 in
theorem number_any (B g k : Nat) (st : St) (w : World) (h : InAt B g st w) (hk1 : 1 ≤ k) (hk2 : k ≤ 4) :
    Calls Try.prog 92 #[.pointer (some ⟨g, 0, none⟩), .int .i64 (k : Int)] w fun e w' => e = .returned (.int .i64 ((numS k st).1 : Int)) ∧ InAt B g (numS k st).2 w' ∧ Fr g w w' := by
  have XT := hide (take_any B g k st w h (by omega))
  obtain ⟨ht1, ht2⟩ := takeS_le k st
  have hb := numB_lt (takeS k st).1
  have hb2 : (256 : Nat) ^ (takeS k st).1.length ≤ 256 ^ 4 := Nat.pow_le_pow_right (by omega) (by omega)
  have hlt : numB (takeS k st).1 < 4294967296 := Nat.lt_of_lt_of_le hb hb2
  have HS : Hid (numS k st = (numB (takeS k st).1, (takeS k st).2)) := hide rfl
  obtain ⟨r, hr⟩ : ∃ r, takeS k st = r := ⟨_, rfl⟩
  rw [hr] at XT ht1 ht2 hlt HS
  rw [HS.out]
  clear hr h hb hb2 HS
  obtain ⟨x, st2⟩ := r
  dsimp only at XT ht1 ht2 hlt ⊢
  have hw : IntKind.i64.wrap (numB x : Int) = (numB x : Int) := by simp [IntKind.wrap, IntKind.bits, IntKind.signed]; omega
  go_enter Try.func92, Try.ntmps92
  go_wp2_with fail
  with_reducible refine XT.out.mono ?_
  rintro e w1 ⟨A, n, c, rfl, hnc, hrd, hin, hfr⟩
  have HIN := hide hin
  have HFR := hide hfr
  have hlen := hrd.len
  have XG : Hid (Calls Try.prog 105 #[.slice A n c] w1 fun e w' => ∃ q : Int, e = .returned (.tuple #[.int .u64 (numB x : Int), .int .i64 q]) ∧ w1 = w') := hide (by
    by_cases h0 : n = 0
    · have hx : x = [] := List.eq_nil_of_length_eq_zero (by omega)
      subst hx
      refine (get_no A n c w1 (by omega)).mono ?_
      rintro e w' ⟨rfl, rfl⟩
      exact ⟨2, rfl, rfl⟩
    · refine (get_yes A n c x w1 (by omega) (by omega) hrd).mono ?_
      rintro e w' ⟨rfl, rfl⟩
      exact ⟨0, rfl, rfl⟩)
  clear hrd hin hfr XT
  go_wp2_with fail
  with_reducible refine XG.out.mono ?_
  rintro e w2 ⟨q, rfl, rfl⟩
  go_wp2_with fail
  go_ret
  exact ⟨rfl, HIN.out, HFR.out⟩
theorem numS_lt (k : Nat) (st : St) (hk : k ≤ 4) : (numS k st).1 < 256 ^ k := by
  obtain ⟨ht1, ht2⟩ := takeS_le k st
  exact Nat.lt_of_lt_of_le (numB_lt (takeS k st).1) (Nat.pow_le_pow_right (by omega) ht1)
set_option maxRecDepth 100000 in
set_option maxHeartbeats 4000000 in
theorem iint_any (B g : Nat) (st : St) (w : World) (h : InAt B g st w) :
    Calls Try.prog 44 #[.pointer (some ⟨g, 0, none⟩)] w fun e w' => e = .returned (.int .i64 (intS st).1) ∧ InAt B g (intS st).2 w' ∧ Fr g w w' := by
  have XN : Hid (Calls Try.prog 92 #[.pointer (some ⟨g, 0, none⟩), .int .i64 4] w fun e w' => e = .returned (.int .i64 ((numS 4 st).1 : Int)) ∧ InAt B g (numS 4 st).2 w' ∧ Fr g w w') := hide (number_any B g 4 st w h (by omega) (by omega))
  have hlt := numS_lt 4 st (by omega)
  rw [show (256 : Nat) ^ 4 = 4294967296 by decide] at hlt
  unfold intS
  generalize numS 4 st = r at *
  obtain ⟨m, st2⟩ := r
  dsimp only at XN hlt ⊢
  clear h
  go_enter Try.func44, Try.ntmps44
  go_wp2_with fail
  with_reducible refine XN.out.mono ?_
  rintro e w1 ⟨rfl, hin, hfr⟩
  have HIN := hide hin
  have HFR := hide hfr
  have XW := hide (wrap_any m w1 hlt)
  clear hin hfr XN hlt
  go_wp2_with fail
  with_reducible refine XW.out.mono ?_
  rintro e w2 ⟨rfl, rfl⟩
  go_wp2_with fail
  go_ret
  exact ⟨rfl, HIN.out, HFR.out⟩
theorem num2_lt (st : St) : (numS 2 st).1 < 65536 := by
  have hlt := numS_lt 2 st (by omega)
  rw [show (256 : Nat) ^ 2 = 65536 by decide] at hlt
  exact hlt
set_option maxRecDepth 100000 in
set_option maxHeartbeats 4000000 in
theorem itxt_any (B g : Nat) (st : St) (w : World) (h : InAt B g st w) :
    Calls Try.prog 46 #[.pointer (some ⟨g, 0, none⟩)] w fun e w' => e = .returned (.string ⟨(txtS st).1.toArray⟩) ∧ InAt B g (txtS st).2 w' ∧ Fr g w w' := by
  have XN : Hid (Calls Try.prog 92 #[.pointer (some ⟨g, 0, none⟩), .int .i64 2] w fun e w' => e = .returned (.int .i64 ((numS 2 st).1 : Int)) ∧ InAt B g (numS 2 st).2 w' ∧ Fr g w w') := hide (number_any B g 2 st w h (by omega) (by omega))
  have hlt := num2_lt st
  unfold txtS
  generalize numS 2 st = r at *
  obtain ⟨m, st2⟩ := r
  dsimp only at XN hlt ⊢
  clear h
  go_enter Try.func46, Try.ntmps46
  go_wp2_with fail
  with_reducible refine XN.out.mono ?_
  rintro e w1 ⟨rfl, hin, hfr⟩
  have HFR := hide hfr
  have XT := hide (take_any B g m st2 w1 hin (by omega))
  clear hin hfr XN hlt
  go_wp2_with fail
  with_reducible refine XT.out.mono ?_
  rintro e w2 ⟨A, n, c, rfl, hnc, hrd, hin, hfr⟩
  have HIN := hide hin
  have HFR2 := hide (HFR.out.trans hfr)
  have r1 := run_string_of (P := Try.prog) w2 w2.heap.size 22 9 5 A n c _ Try.underlying22 Try.underlying5 Try.underlying9 hrd
  clear hin hfr XT hrd
  go_wp2_with fail
  go_ret
  exact ⟨rfl, HIN.out, HFR2.out⟩
theorem InAt.keep {B g : Nat} {st : St} {w w' : World} (h : InAt B g st w) (hb : ∀ x, x < B → w'.heap[x]? = w.heap[x]?) (hs : w.heap.size ≤ w'.heap.size) : InAt B g st w' := by
  obtain ⟨A, n, c, h1, h2, h3, h4, h5, h6⟩ := h
  exact ⟨A, n, c, (hb g h5).trans h1, h2.keep (fun p hp => World.cell?_of_block (hb p.block hp)), h3, h4, h5, Nat.le_trans h6 hs⟩
theorem InAt.lt {B g : Nat} {st : St} {w : World} (h : InAt B g st w) : g < B ∧ B ≤ w.heap.size := by
  obtain ⟨A, n, c, h1, h2, h3, h4, h5, h6⟩ := h
  exact ⟨h5, h6⟩
set_option maxRecDepth 100000 in
set_option maxHeartbeats 4000000 in
theorem idata_any (B g : Nat) (st : St) (w : World) (h : InAt B g st w) :
    Calls Try.prog 56 #[.pointer (some ⟨g, 0, none⟩)] w fun e w' => ∃ A n c, e = .returned (.slice A n c) ∧ OwB w.heap.size w' A n c (txtS st).1 ∧ InAt B g (txtS st).2 w' ∧ Fr g w w' := by
  have XN : Hid (Calls Try.prog 92 #[.pointer (some ⟨g, 0, none⟩), .int .i64 2] w fun e w' => e = .returned (.int .i64 ((numS 2 st).1 : Int)) ∧ InAt B g (numS 2 st).2 w' ∧ Fr g w w') := hide (number_any B g 2 st w h (by omega) (by omega))
  have hlt := num2_lt st
  unfold txtS
  generalize numS 2 st = r at *
  obtain ⟨m, st2⟩ := r
  dsimp only at XN hlt ⊢
  clear h
  go_enter Try.func56, Try.ntmps56
  go_wp2_with fail
  with_reducible refine XN.out.mono ?_
  rintro e w1 ⟨rfl, hin, hfr⟩
  have HFR := hide hfr
  have XT := hide (take_any B g m st2 w1 hin (by omega))
  have htl := (takeS_le m st2).1
  clear hin hfr XN
  go_wp2_with fail
  with_reducible refine XT.out.mono ?_
  rintro e w2 ⟨A, n, c, rfl, hnc, hrd, hin, hfr⟩
  have HIN := hide hin
  have HFR2 := hide (HFR.out.trans hfr)
  have hnl := hrd.len
  have XC := hide (Dk.list_any A n c _ w2 hrd (by omega))
  clear hin hfr XT hrd htl hnl hlt
  go_wp2_with fail
  with_reducible refine XC.out.mono ?_
  rintro e w3 ⟨A3, c3, rfl, ho, hb⟩
  have HO := hide ho
  have HB := hide hb
  clear ho hb XC
  go_wp2_with fail
  go_ret
  exact ⟨A3, n, c3, rfl, own_more HO.out HFR2.out.1, HIN.out.keep (fun x hx => HB.out.block x (Nat.lt_of_lt_of_le hx HIN.out.lt.2)) HB.out.size, HFR2.out.trans (Fr.of_below HB.out)⟩
set_option maxRecDepth 100000 in
set_option maxHeartbeats 4000000 in
theorem done_any (B g : Nat) (st : St) (w : World) (h : InAt B g st w) :
    Calls Try.prog 57 #[.pointer (some ⟨g, 0, none⟩)] w fun e w' => e = .returned (.bool (!st.2 && st.1.isEmpty)) ∧ w = w' := by
  obtain ⟨bs, sh⟩ := st
  obtain ⟨A, m, c, hk, hr, hmc, hm, hgB, hBw⟩ := h
  have hlen : bs.length = m := by simpa [bv] using hr.1
  dsimp only at hk hr hlen ⊢
  have c0 := hk.cell 0
  have c1 := hk.cell 1
  simp only [List.getElem?_toArray, List.getElem?_cons_succ, List.getElem?_cons_zero] at c0 c1
  clear hk hr
  cases sh with
  | true =>
    go_enter Try.func57, Try.ntmps57
    go_wp2_with fail
    go_ret
    exact ⟨rfl, rfl⟩
  | false =>
    have he : ((m : Int) == 0) = bs.isEmpty := by
      cases bs with
      | nil => subst hlen; rfl
      | cons x l => subst hlen; simp; omega
    go_enter Try.func57, Try.ntmps57
    go_wp2_with fail
    go_ret
    exact ⟨rfl, rfl⟩
end Go.Proofs.Ytedacfjkbfgikaa
