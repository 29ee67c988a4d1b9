/- ProtoRequests: for every input the law returns true and leaves its arguments as they were. The contract of the reference's Get. The document's reader: take, number, signed, text. The document's reader: number, signed, text, list, numbers. The document's Decode of a request: plain, and its steps. The document's field. The document's Check of a request: some of the operations. What the document's Check says is what the program's says. The document's Encode of a request. The document's Decode of a request. The law Requests. What the rows' lists give in a seat without laid variables, and how a slice of bytes is opened. How slices of texts and of ints that came in are opened. How a request and a reply that came in are opened. -/
import Derived.Test.YtedacfjkbfgikaaBase
import Derived.Test.YtedacfjkbfgikaaNumP
import Derived.Test.YtedacfjkbfgikaaRfB
import Derived.Test.YtedacfjkbfgikaaMem
import Derived.Test.YtedacfjkbfgikaaRfA
import Derived.Lib.ConvBytes
import Derived.Lib.AtoiErrMem
import Derived.Test.YtedacfjkbfgikaaRfC
import Derived.Test.YtedacfjkbfgikaaRfD0
import Derived.Test.YtedacfjkbfgikaaRfD2
import Derived.Test.YtedacfjkbfgikaaRfD3
import Derived.Test.YtedacfjkbfgikaaRfD4
import Derived.Test.YtedacfjkbfgikaaRfD5
import Derived.Test.YtedacfjkbfgikaaRfD6
import Derived.Test.YtedacfjkbfgikaaPrLb
import Derived.Test.YtedacfjkbfgikaaRows
import Derived.WalkKit
import Derived.ProofKit
import Derived.OpenShut
import Derived.ShutString
import Derived.ChangeOld
import Derived.LaidMore
import Derived.Stop.LaidErr
import Derived.Stop.Joined
import Derived.Lib.SmallJoins
import Derived.Test.YtedacfjkbfgikaaStrs
import Derived.Deep.Strs
import Derived.SizedLaws
import Derived.Test.YtedacfjkbfgikaaPrSm
namespace Go.Proofs.Ytedacfjkbfgikaa
open Go.RowKit
set_option linter.unusedVariables false

set_option maxRecDepth 100000 in
set_option maxHeartbeats 400000 in
theorem rget_no (A : Option Addr) (n c : Nat) (w : World) (h : n < 1 ∨ 8 < n) :
    Calls Try.prog 95 #[.slice A n c] w fun e w' => e = .returned (.tuple #[.int .u64 0, .int .i64 2]) ∧ w = w' := by
  rcases h with h | h
  · go_enter Try.func95, Try.ntmps95
    go_wp2
    go_ret2
    exact ⟨rfl, rfl⟩
  · have h' : ¬ n < 1 := by omega
    go_enter Try.func95, Try.ntmps95
    go_wp2
    go_ret2
    exact ⟨rfl, rfl⟩

set_option maxRecDepth 100000 in
set_option maxHeartbeats 400000 in
theorem rget_yes (A : Option Addr) (n c : Nat) (bs : List UInt8) (w : World) (hn : 1 ≤ n) (hn2 : n ≤ 8) (hr : Rd w A n bs) :
    Calls Try.prog 95 #[.slice A n c] w fun e w' => e = .returned (.tuple #[.int .u64 (numB bs), .int .i64 0]) ∧ w = w' := by
  have hl := hide hr.len
  obtain ⟨ad, hA, _, _⟩ := hr.get (k := 0) (by omega)
  subst hA
  go_enter Try.func95, Try.ntmps95
  go_wp2
  go_loop [4, 5] (fun a i => ∃ k : Nat, k ≤ n ∧ i = .int .i64 k ∧ a = .int .u64 (numB (bs.take k))) (fun _ i => n - (intOf i).toNat)
  case atStart => exact ⟨0, Nat.zero_le _, rfl, rfl⟩
  case round =>
    obtain ⟨k, hk, rfl, rfl⟩ := hrel
    by_cases hlt : k < n
    · obtain ⟨ad', hA, _, hcell⟩ := hr.get hlt
      cases hA
      have h1 := numB_lt7 (bs.take k) (by simp; omega)
      have h2 := (bs.getD k 0).toNat_lt
      have H := hide (numB_take bs k (by have := hl.out; omega))
      generalize numB (bs.take k) = x at *
      generalize (bs.getD k 0).toNat = y at *
      go_wp2
      go_round
      case rel => 
        refine ⟨k + 1, by omega, by go_num, ?_⟩
        rw [H.out]; go_num
      case measure => simp [intOf]; omega
    · go_wp2
      go_ret2
      obtain rfl : k = n := by omega
      rw [List.take_of_length_le (by have := hl.out; omega)]
      exact ⟨rfl, rfl⟩
end Go.Proofs.Ytedacfjkbfgikaa
namespace Go.Proofs.Ytedacfjkbfgikaa
open Go.RowKit
set_option linter.unusedVariables false
theorem sl_lh (A : Option Addr) (n c q z : Nat) (l h : Int) (hl : l = (q : Int)) (hh : h = (z : Int)) (hq : q ≤ z) (hz : z ≤ c) (W : World) : (Instr.slice 22 (.slice A n c) (some (.int .i64 l)) (some (.int .i64 h)) none).run Try.prog W = .ok (.slice (from_ c q A) (z - q) (c - q)) W := by
  subst hl; subst hh
  have hE : Try.prog.elem 22 = 5 := by simp [Program.elem, Try.underlying22]
  rw [run_slice_lh W 22 A n c (slice_ht Try.underlying22) .i64 .i64 _ _ (by omega) (by omega) (by omega), hE, run_sizeOf_one 5 sizeU8]
  simp [Result.andThen, sliced, from_]
def PAt (B g : Nat) (st : St) (w : World) : Prop := ∃ A n c at_ bs, Blk w g 80 #[.slice A n c, .int .i64 (at_ : Nat), .bool st.2] ∧ Reads w B 1 A n (bv bs) ∧ st.1 = bs.drop at_ ∧ at_ ≤ n ∧ n ≤ c ∧ n ≤ 1000000 ∧ g < B ∧ B ≤ w.heap.size
theorem PAt.keep {B g : Nat} {st : St} {w w' : World} (h : PAt B g st w) (hb : ∀ x, x < B → w'.heap[x]? = w.heap[x]?) (hs : w.heap.size ≤ w'.heap.size) : PAt B g st w' := by
  obtain ⟨A, n, c, a, bs, h1, h2, h3, h4, h5, h6, h7, h8⟩ := h
  exact ⟨A, n, c, a, bs, (hb g h7).trans h1, h2.keep (fun p hp => World.cell?_of_block (hb p.block hp)), h3, h4, h5, h6, h7, Nat.le_trans h8 hs⟩
theorem PAt.lt {B g : Nat} {st : St} {w : World} (h : PAt B g st w) : g < B ∧ B ≤ w.heap.size := by
  obtain ⟨A, n, c, a, bs, h1, h2, h3, h4, h5, h6, h7, h8⟩ := h
  exact ⟨h7, h8⟩
theorem p_no (A : Option Addr) (n c : Nat) (a : Int) (b : Bool) : ∀ v ∈ (#[Value.slice A n c, .int .i64 a, .bool b]).toList, ∀ z, v ≠ .int .u8 z := by
  intro v hv z e
  subst e
  simp at hv
theorem set_p {w : World} {B : Nat} {A : Option Addr} {n : Nat} {xs : LB} (h : Reads w B 1 A n (bv xs)) {g : Nat} {A' : Option Addr} {n' c' : Nat} {a : Int} {b : Bool} (hk : Blk w g 80 #[.slice A' n' c', .int .i64 a, .bool b]) (i : Nat) (u : Value) (hi : i < 3) : Reads (w.setCell ⟨g, i, none⟩ u) B 1 A n (bv xs) := by
  have hc := hk.cell i
  rw [Array.getElem?_eq_getElem (by simpa using hi)] at hc
  exact h.set1 hc (p_no A' n' c' a b _ (by rw [← Array.getElem_toList (by simpa using hi)]; exact List.getElem_mem _)) u
def TkEnd (B g n : Nat) (st : St) (w : World) (e : Ending) (w' : World) : Prop := ∃ A' n' c', e = .returned (.slice A' n' c') ∧ n' ≤ c' ∧ Rd w' A' n' (takeS n st).1 ∧ PAt B g (takeS n st).2 w' ∧ Fr g w w'
set_option maxRecDepth 100000 in
set_option maxHeartbeats 4000000 in
theorem rtake_any (B g n : Nat) (st : St) (w : World) (h : PAt B g st w) (hn : n ≤ 1000000) :
    Calls Try.prog 96 #[.pointer (some ⟨g, 0, none⟩), .int .i64 (n : Int)] w fun e w' => TkEnd B g n st w e w' := by
  obtain ⟨rs, sh⟩ := st
  obtain ⟨A, m, c, a, bs, hk, hr, hrs, ham, hmc, hm, hgB, hBw⟩ := h
  have hlen : bs.length = m := by simpa [bv] using hr.1
  dsimp only at hk hr hlen hrs
  have hrl : rs.length = m - a := by rw [hrs, List.length_drop, hlen]
  have HK := hide hk
  have HR := hide hr
  have HRS := hide hrs
  have c0 := hk.cell 0
  have c1 := hk.cell 1
  have c2 := hk.cell 2
  have f0 := hk.frozen 0
  have f1 := hk.frozen 1
  have f2 := hk.frozen 2
  have hgl := hk.lt
  simp only [List.getElem?_toArray, List.getElem?_cons_succ, List.getElem?_cons_zero] at c0 c1 c2
  have v0 : IntKind.i64.wrap ((m : Int) - (a : Int)) = (m : Int) - (a : Int) := by simp [IntKind.wrap, IntKind.bits, IntKind.signed]; omega
  clear hk hr hrs
  cases sh with
  | true =>
    have HE : Hid (∀ k, TkEnd B g n (rs, true) w (.returned (.slice none 0 0)) ((w.drewN k).setCell ⟨g, 2, none⟩ (.bool true))) := hide (fun k => by
      have hs : takeS n (rs, true) = ([], (rs, true)) := by simp [takeS]
      unfold TkEnd
      rw [hs]
      exact ⟨none, 0, 0, rfl, Nat.le_refl _, Reads.none_, ⟨A, m, c, a, bs, by simpa using (HK.out.drewN k).set_ 2 (.bool true), set_p (HR.out.drewN k) (HK.out.drewN k) 2 _ (by omega), HRS.out, ham, hmc, hm, hgB, by simpa using hBw⟩, ⟨by simp, fun x hx hn => Below.heap_setCell (w.drewN k) ⟨g, 2, none⟩ _ x hn, rfl, rfl, rfl⟩⟩)
    go_enter Try.func96, Try.ntmps96
    go_wp2_with fail
    go_quiet (fail)
    go_wp2_with fail
    go_ret
    exact HE.out _
  | false =>
    by_cases hlt : (m : Int) - (a : Int) < (n : Int)
    · have hlt2 : decide ((m : Int) - (a : Int) < (n : Int)) = true := by simp; omega
      have HE : Hid (∀ k, TkEnd B g n (rs, false) w (.returned (.slice none 0 0)) ((w.drewN k).setCell ⟨g, 2, none⟩ (.bool true))) := hide (fun k => by
        have hs : takeS n (rs, false) = ([], (rs, true)) := by
          unfold takeS
          rw [if_pos (.inr (by show rs.length < n; omega))]
        unfold TkEnd
        rw [hs]
        exact ⟨none, 0, 0, rfl, Nat.le_refl _, Reads.none_, ⟨A, m, c, a, bs, by simpa using (HK.out.drewN k).set_ 2 (.bool true), set_p (HR.out.drewN k) (HK.out.drewN k) 2 _ (by omega), HRS.out, ham, hmc, hm, hgB, by simpa using hBw⟩, ⟨by simp, fun x hx hn => Below.heap_setCell (w.drewN k) ⟨g, 2, none⟩ _ x hn, rfl, rfl, rfl⟩⟩)
      clear hrl
      go_enter Try.func96, Try.ntmps96
      go_wp2_with fail
      go_quiet (fail)
      go_wp2_with fail
      go_ret
      exact HE.out _
    · have hlt2 : decide ((m : Int) - (a : Int) < (n : Int)) = false := by simp; omega
      have hle : a + n ≤ m := by omega
      have v1 : IntKind.i64.wrap ((a : Int) + (n : Int)) = (a : Int) + (n : Int) := by simp [IntKind.wrap, IntKind.bits, IntKind.signed]; omega
      have v2 : IntKind.i64.wrap ((a : Int) + (n : Int) - (n : Int)) = (a : Int) := by simp [IntKind.wrap, IntKind.bits, IntKind.signed]; omega
      have v3 : IntKind.i64.wrap (a : Int) = (a : Int) := by simp [IntKind.wrap, IntKind.bits, IntKind.signed]; omega
      have v4 : (a : Int) + (n : Int) - (n : Int) = (a : Int) := by omega
      have hsl := fun W => sl_lh A m c a (a + n) (a : Int) ((a : Int) + (n : Int)) rfl (by omega) (by omega) (by omega) W
      rw [show a + n - a = n by omega] at hsl
      have kd : ∀ q, Blk ((w.drewN q).setCell ⟨g, 1, none⟩ (.int .i64 ((a : Int) + (n : Int)))) g 80 #[.slice A m c, .int .i64 (((a + n : Nat)) : Int), .bool false] := by
        intro q
        have := (HK.out.drewN q).set_ 1 (.int .i64 ((a : Int) + (n : Int)))
        simpa using this
      have HE : Hid (∀ q k, TkEnd B g n (rs, false) w (.returned (.slice (from_ c a A) n (c - a))) (((w.drewN q).setCell ⟨g, 1, none⟩ (.int .i64 ((a : Int) + (n : Int)))).drewN k)) := hide (fun q k => by
        have hs : takeS n (rs, false) = (rs.take n, (rs.drop n, false)) := by
          unfold takeS
          rw [if_neg (by show ¬ (false = true ∨ rs.length < n); simp; omega)]
        unfold TkEnd
        rw [hs]
        have hR1 := set_p (HR.out.drewN q) (HK.out.drewN q) 1 (.int .i64 ((a : Int) + (n : Int))) (by omega)
        refine ⟨from_ c a A, n, c - a, rfl, by omega, ?_, ⟨A, m, c, a + n, bs, (kd q).drewN k, hR1.drewN k, ?_, by omega, hmc, hm, hgB, by simpa using hBw⟩, ⟨by simp, fun x hx hn => Below.heap_setCell (w.drewN q) ⟨g, 1, none⟩ _ x hn, rfl, rfl, rfl⟩⟩
        · have h2 := rd_to (rd_from hR1 ham hmc) (l := n) (by omega)
          rw [← HRS.out] at h2
          exact (h2.drewN k).more (by simpa using hBw)
        · show rs.drop n = bs.drop (a + n)
          rw [HRS.out, List.drop_drop])
      clear hrl kd
      go_enter Try.func96, Try.ntmps96
      go_wp2_with fail
      go_quiet (fail)
      go_wp2_with fail
      go_quiet (fail)
      go_wp2_with fail
      go_ret
      exact HE.out _ _
end Go.Proofs.Ytedacfjkbfgikaa
namespace Go.Proofs.Ytedacfjkbfgikaa
open Go.RowKit
set_option linter.unusedVariables false
set_option maxRecDepth 100000 in
set_option maxHeartbeats 4000000 in
theorem rnum_any (B g k : Nat) (st : St) (w : World) (h : PAt B g st w) (hk1 : 1 ≤ k) (hk2 : k ≤ 4) :
    Calls Try.prog 58 #[.pointer (some ⟨g, 0, none⟩), .int .i64 (k : Int)] w fun e w' => e = .returned (.int .i64 ((numS k st).1 : Int)) ∧ PAt B g (numS k st).2 w' ∧ Fr g w w' := by
  have XT := hide (rtake_any B g k st w h (by omega))
  unfold TkEnd at XT
  obtain ⟨ht1, ht2⟩ := takeS_le k st
  have hb := numB_lt (takeS k st).1
  have hb2 : (256 : Nat) ^ (takeS k st).1.length ≤ 256 ^ 4 := Nat.pow_le_pow_right (by omega) (by omega)
  have hlt : numB (takeS k st).1 < 4294967296 := Nat.lt_of_lt_of_le hb hb2
  have HS : Hid (numS k st = (numB (takeS k st).1, (takeS k st).2)) := hide rfl
  obtain ⟨r, hr⟩ : ∃ r, takeS k st = r := ⟨_, rfl⟩
  rw [hr] at XT ht1 ht2 hlt HS
  rw [HS.out]
  clear hr h hb hb2 HS
  obtain ⟨x, st2⟩ := r
  dsimp only at XT ht1 ht2 hlt ⊢
  have hw : IntKind.i64.wrap (numB x : Int) = (numB x : Int) := by simp [IntKind.wrap, IntKind.bits, IntKind.signed]; omega
  go_enter Try.func58, Try.ntmps58
  go_wp2_with fail
  with_reducible refine XT.out.mono ?_
  rintro e w1 ⟨A, n, c, rfl, hnc, hrd, hin, hfr⟩
  have HIN := hide hin
  have HFR := hide hfr
  have hlen := hrd.len
  have XG : Hid (Calls Try.prog 95 #[.slice A n c] w1 fun e w' => ∃ q : Int, e = .returned (.tuple #[.int .u64 (numB x : Int), .int .i64 q]) ∧ w1 = w') := hide (by
    by_cases h0 : n = 0
    · have hx : x = [] := List.eq_nil_of_length_eq_zero (by omega)
      subst hx
      refine (rget_no A n c w1 (by omega)).mono ?_
      rintro e w' ⟨rfl, rfl⟩
      exact ⟨_, rfl, rfl⟩
    · refine (rget_yes A n c x w1 (by omega) (by omega) hrd).mono ?_
      rintro e w' ⟨rfl, rfl⟩
      exact ⟨_, rfl, rfl⟩)
  clear hrd hin hfr XT
  go_wp2_with fail
  with_reducible refine XG.out.mono ?_
  rintro e w2 ⟨q, rfl, rfl⟩
  go_wp2_with fail
  go_ret
  exact ⟨rfl, HIN.out, HFR.out⟩
set_option maxRecDepth 10000 in
theorem wrap_lo (n : Nat) (hn : n < 2147483648) : wrap32 (n : Int) = (n : Int) := by
  unfold wrap32 Int.bmod
  rw [show ((4294967296 : Nat) : Int) = 4294967296 from rfl]
  dsimp only
  split <;> omega
set_option maxRecDepth 10000 in
theorem wrap_hi (n : Nat) (hn : n < 4294967296) (hn2 : ¬ n < 2147483648) : wrap32 (n : Int) = (n : Int) - 2147483648 - 2147483648 := by
  unfold wrap32 Int.bmod
  rw [show ((4294967296 : Nat) : Int) = 4294967296 from rfl]
  dsimp only
  split <;> omega
set_option maxRecDepth 100000 in
set_option maxHeartbeats 4000000 in
theorem rwrap_any (n : Nat) (w : World) (hn : n < 4294967296) :
    Calls Try.prog 97 #[.int .i64 (n : Int), .int .i64 32] w fun e w' => e = .returned (.int .i64 (wrap32 (n : Int))) ∧ w = w' := by
  have u1 : IntKind.u64.wrap (n : Int) = (n : Int) := by simp [IntKind.wrap, IntKind.bits, IntKind.signed]; omega
  have u2 : (n : Int).tmod 4294967296 = (n : Int) := Int.tmod_eq_of_lt (by omega) (by omega)
  have u3 : IntKind.i64.wrap (n : Int) = (n : Int) := by simp [IntKind.wrap, IntKind.bits, IntKind.signed]; omega
  by_cases h : n < 2147483648
  · have h1 : ¬ (2147483648 : Int) ≤ (n : Int) := by omega
    rw [wrap_lo n h]
    go_enter Try.func97, Try.ntmps97
    go_wp2_with fail
    go_ret
    exact ⟨rfl, rfl⟩
  · have h1 : (2147483648 : Int) ≤ (n : Int) := by omega
    have u4 : IntKind.i64.wrap ((n : Int) - 2147483648) = (n : Int) - 2147483648 := by simp [IntKind.wrap, IntKind.bits, IntKind.signed]; omega
    have u5 : IntKind.i64.wrap ((n : Int) - 2147483648 - 2147483648) = (n : Int) - 2147483648 - 2147483648 := by simp [IntKind.wrap, IntKind.bits, IntKind.signed]; omega
    rw [wrap_hi n hn h]
    go_enter Try.func97, Try.ntmps97
    go_wp2_with fail
    go_ret
    exact ⟨rfl, rfl⟩
set_option maxRecDepth 100000 in
set_option maxHeartbeats 4000000 in
theorem rint_any (B g : Nat) (st : St) (w : World) (h : PAt B g st w) :
    Calls Try.prog 60 #[.pointer (some ⟨g, 0, none⟩)] w fun e w' => e = .returned (.int .i64 (intS st).1) ∧ PAt B g (intS st).2 w' ∧ Fr g w w' := by
  have XN : Hid (Calls Try.prog 58 #[.pointer (some ⟨g, 0, none⟩), .int .i64 4] w fun e w' => e = .returned (.int .i64 ((numS 4 st).1 : Int)) ∧ PAt B g (numS 4 st).2 w' ∧ Fr g w w') := hide (rnum_any B g 4 st w h (by omega) (by omega))
  have hlt := numS_lt 4 st (by omega)
  rw [show (256 : Nat) ^ 4 = 4294967296 by decide] at hlt
  unfold intS
  generalize numS 4 st = r at *
  obtain ⟨m, st2⟩ := r
  dsimp only at XN hlt ⊢
  clear h
  go_enter Try.func60, Try.ntmps60
  go_wp2_with fail
  with_reducible refine XN.out.mono ?_
  rintro e w1 ⟨rfl, hin, hfr⟩
  have HIN := hide hin
  have HFR := hide hfr
  have XW := hide (rwrap_any m w1 hlt)
  clear hin hfr XN hlt
  go_wp2_with fail
  with_reducible refine XW.out.mono ?_
  rintro e w2 ⟨rfl, rfl⟩
  go_wp2_with fail
  go_ret
  exact ⟨rfl, HIN.out, HFR.out⟩
set_option maxRecDepth 100000 in
set_option maxHeartbeats 4000000 in
theorem rtxt_any (B g : Nat) (st : St) (w : World) (h : PAt B g st w) :
    Calls Try.prog 59 #[.pointer (some ⟨g, 0, none⟩)] w fun e w' => e = .returned (.string ⟨(txtS st).1.toArray⟩) ∧ PAt B g (txtS st).2 w' ∧ Fr g w w' := by
  have XN : Hid (Calls Try.prog 58 #[.pointer (some ⟨g, 0, none⟩), .int .i64 2] w fun e w' => e = .returned (.int .i64 ((numS 2 st).1 : Int)) ∧ PAt B g (numS 2 st).2 w' ∧ Fr g w w') := hide (rnum_any B g 2 st w h (by omega) (by omega))
  have hlt := num2_lt st
  unfold txtS
  generalize numS 2 st = r at *
  obtain ⟨m, st2⟩ := r
  dsimp only at XN hlt ⊢
  clear h
  go_enter Try.func59, Try.ntmps59
  go_wp2_with fail
  with_reducible refine XN.out.mono ?_
  rintro e w1 ⟨rfl, hin, hfr⟩
  have HFR := hide hfr
  have XT := hide (rtake_any B g m st2 w1 hin (by omega))
  clear hin hfr XN hlt
  go_wp2_with fail
  with_reducible refine XT.out.mono ?_
  rintro e w2 ⟨A, n, c, rfl, hnc, hrd, hin, hfr⟩
  have HIN := hide hin
  have HFR2 := hide (HFR.out.trans hfr)
  have r1 := run_string_of (P := Try.prog) w2 w2.heap.size 22 9 5 A n c _ Try.underlying22 Try.underlying5 Try.underlying9 hrd
  clear hin hfr XT hrd
  go_wp2_with fail
  go_ret
  exact ⟨rfl, HIN.out, HFR2.out⟩
def itemsR {α : Type} (f : St → α × St) : Nat → List α → St → List α × St
  | 0, out, st => (out, st)
  | k + 1, out, st => if st.2 = true then (out, st) else itemsR f k (out ++ [(f st).1]) (f st).2
def listR {α : Type} (f : St → α × St) (st : St) : List α × St := itemsR f (numS 1 st).1 [] (numS 1 st).2
theorem itemsR_bad {α : Type} (f : St → α × St) (k : Nat) (out : List α) (st : St) (h : st.2 = true) : itemsR f k out st = (out, st) := by
  cases k with
  | zero => rfl
  | succ k => unfold itemsR; rw [if_pos h]
theorem itemsR_eq {α : Type} (f : St → α × St) : ∀ (k : Nat) (out : List α) (st : St), st.2 = false → (itemsR f k out st).2.2 = (itemsS f k out st).2.2 ∧ ((itemsS f k out st).2.2 = false → itemsR f k out st = itemsS f k out st)
  | 0, out, st, h => ⟨rfl, fun _ => rfl⟩
  | k + 1, out, st, h => by
    unfold itemsR itemsS
    rw [if_neg (by rw [h]; simp)]
    by_cases hc : (f st).2.2 = true
    · rw [if_pos hc, itemsR_bad f k _ _ hc]
      exact ⟨rfl, fun hh => by dsimp only at hh; rw [hc] at hh; cases hh⟩
    · rw [if_neg hc]
      exact itemsR_eq f k _ _ (by simpa using hc)
theorem listR_eq {α : Type} (f : St → α × St) (hs : ∀ st, st.2 = true → (f st).2.2 = true) (st : St) : (listR f st).2.2 = (listS f st).2.2 ∧ ((listS f st).2.2 = false → listR f st = listS f st) := by
  unfold listR listS
  cases hb : (numS 1 st).2.2 with
  | false => exact itemsR_eq f _ _ _ hb
  | true =>
    rw [itemsR_bad f _ _ _ hb]
    have h2 := itemsS_short f hs (numS 1 st).1 [] (numS 1 st).2 hb
    exact ⟨by rw [h2]; exact hb, fun h => by rw [h2] at h; cases h⟩
theorem itemsR_step {α : Type} (f : St → α × St) (k : Nat) (out : List α) (st : St) (h : st.2 = false) : itemsR f (k + 1) out st = itemsR f k (out ++ [(f st).1]) (f st).2 := by
  rw [itemsR, if_neg (by rw [h]; simp)]
set_option maxRecDepth 100000 in
set_option maxHeartbeats 4000000 in
theorem rtxts_any (B g : Nat) (st : St) (w : World) (h : PAt B g st w) :
    Calls Try.prog 61 #[.pointer (some ⟨g, 0, none⟩)] w fun e w' => ∃ A n c, e = .returned (.slice A n c) ∧ w'.ownsRow w.heap.size 9 1 (.slice A n c) n (svs (listR txtS st).1) ∧ PAt B g (listR txtS st).2 w' ∧ Fr g w w' := by
  obtain ⟨i0, hi0, hz0, hz1, hz2⟩ := info_parts infoStr
  have XN : Hid (Calls Try.prog 58 #[.pointer (some ⟨g, 0, none⟩), .int .i64 1] w fun e w' => e = .returned (.int .i64 ((numS 1 st).1 : Int)) ∧ PAt B g (numS 1 st).2 w' ∧ Fr g w w') := hide (rnum_any B g 1 st w h (by omega) (by omega))
  have hlt := num1_lt st
  have hlw := h.lt
  unfold listR
  generalize numS 1 st = r at *
  obtain ⟨N, st1⟩ := r
  dsimp only at XN hlt ⊢
  clear h
  go_enter Try.func61, Try.ntmps61
  go_wp2_with fail
  with_reducible refine XN.out.mono ?_
  rintro e w1 ⟨rfl, hin, hfr⟩
  have HIN := hide hin
  have HFR := hide hfr
  clear hin hfr XN
  go_wp2_with fail
  go_loopw [3, 5] (fun s5 s8 wx => ∃ i : Nat, i ≤ N ∧ s8 = .int .i64 (i : Int) ∧ ∃ A2 c2, s5 = .slice A2 i c2 ∧ ∃ (out : List LB) (sti : St), Hid (wx.ownsRow w.heap.size 9 1 (.slice A2 i c2) i (svs out)) ∧ Hid (PAt B g sti wx) ∧ Hid (Fr g w wx) ∧ Hid (itemsR txtS N [] st1 = itemsR txtS (N - i) out sti)) (fun _ i _ => N - (intOf i).toNat)
  case atStart => exact ⟨0, Nat.zero_le _, rfl, none, 0, rfl, [], st1, hide (World.ownsRow_nil _ _ _ _), HIN, HFR, hide rfl⟩
  case round =>
    obtain ⟨i, hi', rfl, A2, c2, rfl, out, sti, HO, HI, HF, HE⟩ := hrel
    obtain ⟨IA, IM, IC, Iat, Ibs, hIk, -⟩ := HI.out
    have cb2 := hIk.cell 2
    have hgl := hIk.lt
    simp only [List.getElem?_toArray, List.getElem?_cons_succ, List.getElem?_cons_zero] at cb2
    clear hIk
    by_cases hlt1 : i < N
    · have hlt2 : (i : Int) < (N : Int) := by omega
      cases hsb : sti.2 with
      | true =>
        rw [hsb] at cb2
        have HEb : Hid (itemsR txtS N [] st1 = (out, sti)) := hide (by rw [HE.out, itemsR_bad _ _ _ _ hsb])
        clear hsb
        go_wp2_with fail
        go_ret
        refine ⟨A2, i, c2, rfl, ?_, ?_, HF.out⟩
        · rw [HEb.out]
          exact HO.out
        · rw [HEb.out]
          exact HI.out
      | false =>
        rw [hsb] at cb2
        obtain ⟨k, hk⟩ : ∃ k, N - i = k + 1 := ⟨N - i - 1, by omega⟩
        have HE2 : Hid (itemsR txtS N [] st1 = itemsR txtS k (out ++ [(txtS sti).1]) (txtS sti).2) := hide (by rw [HE.out, hk, itemsR_step _ _ _ _ hsb])
        have XC := hide (rtxt_any B g sti wr HI.out)
        have v1 : IntKind.i64.wrap ((i : Int) + 1) = (i : Int) + 1 := by simp [IntKind.wrap, IntKind.bits, IntKind.signed]; omega
        generalize txtS sti = r at *
        obtain ⟨x, sj⟩ := r
        dsimp only at XC HE2
        clear hsb
        go_wp2_with fail
        refine XC.out.mono ?_
        rintro e3 w3 ⟨rfl, hin, hfr⟩
        have hbase : w.heap.size ≤ w3.heap.size := Nat.le_trans HF.out.1 hfr.1
        have HO3 := hide (own_at HO.out (fun y hy hy2 => hfr.2 y hy2 (by omega)))
        have HF3 := hide (HF.out.trans hfr)
        have HIN3 := hide hin
        have hr1 := one_str w3 x
        have hO1 := World.ownsRow.alloc HO3.out (.cells #[.string ⟨x.toArray⟩] 9)
        clear hin hfr XC cb2 hgl
        go_wp2_with (at_builtin; (refine wpList_append_any _ rfl (.tmp 20) (.tmp 23) 23 rfl w.heap.size 9 i0 _ 1 16 Try.underlying23 hi0 hz0 hz1 hz2 rfl (by omega) (.slice A2 i c2) i (svs out) rfl hO1 (w3.heap.size + 1) (some ⟨w3.heap.size, 0, none⟩) 1 1 (svs [x]) rfl hr1 (svs_one _) ?c1 ?c2 ?c3 ?_))
        case c1 => unfold maxLen; omega
        case c2 => omega
        case c3 => simp; omega
        intro v9 w9 hown9 hg9 hat9
        obtain ⟨A9, k9, rfl⟩ := own_slice hown9
        rw [svs_snoc] at hown9
        have HO9 := hide hown9
        have hlow : ∀ y, y < w.heap.size → w9.heap[y]? = w3.heap[y]? := fun y hy => by
          rw [hg9.block y (by simp; omega) (by
            intro h
            have := (World.ownsRow.lt HO3.out y h.symm).1
            omega)]
          exact Below.heap_alloc w3 _ y (by omega)
        have hs9 : w3.heap.size ≤ w9.heap.size := by have := hg9.size; simp at this; omega
        have HI9 := hide (HIN3.out.keep (fun y hy => hlow y (by omega)) hs9)
        have HF9 : Hid (Fr g w w9) := hide ⟨Nat.le_trans hbase hs9, fun y hy hn => (hlow y hy).trans (HF3.out.2 y hy hn), hg9.os.trans HF3.out.os, hg9.tape.trans HF3.out.tape, hg9.output.trans HF3.out.output⟩
        have HE9 : Hid (itemsR txtS N [] st1 = itemsR txtS (N - (i + 1)) (out ++ [x]) sj) := hide (by rw [HE2.out, show N - (i + 1) = k by omega])
        clear hown9 hg9 hat9 hO1 hr1 hlow HIN3 HF3 HO3
        go_wp2_with fail
        clear v1
        go_roundw
        case rel => exact ⟨i + 1, by omega, by go_num, A9, k9, rfl, out ++ [x], sj, HO9, HI9, HF9, HE9⟩
        case measure => simp [intOf]; omega
    · obtain rfl : i = N := by omega
      have hlt2 : ¬ (i : Int) < (i : Int) := by omega
      have HE2 : Hid (itemsR txtS i [] st1 = (out, sti)) := hide (by rw [HE.out, Nat.sub_self]; rfl)
      clear cb2
      go_wp2_with fail
      go_ret
      refine ⟨A2, i, c2, rfl, ?_, ?_, HF.out⟩
      · rw [HE2.out]
        exact HO.out
      · rw [HE2.out]
        exact HI.out
set_option maxRecDepth 100000 in
set_option maxHeartbeats 4000000 in
theorem rints_any (B g : Nat) (st : St) (w : World) (h : PAt B g st w) :
    Calls Try.prog 62 #[.pointer (some ⟨g, 0, none⟩)] w fun e w' => ∃ A n c, e = .returned (.slice A n c) ∧ w'.ownsRow w.heap.size 3 1 (.slice A n c) n (ivs (listR intS st).1) ∧ PAt B g (listR intS st).2 w' ∧ Fr g w w' := by
  obtain ⟨i0, hi0, hz0, hz1, hz2⟩ := info_parts infoIntP
  have XN : Hid (Calls Try.prog 58 #[.pointer (some ⟨g, 0, none⟩), .int .i64 1] w fun e w' => e = .returned (.int .i64 ((numS 1 st).1 : Int)) ∧ PAt B g (numS 1 st).2 w' ∧ Fr g w w') := hide (rnum_any B g 1 st w h (by omega) (by omega))
  have hlt := num1_lt st
  have hlw := h.lt
  unfold listR
  generalize numS 1 st = r at *
  obtain ⟨N, st1⟩ := r
  dsimp only at XN hlt ⊢
  clear h
  go_enter Try.func62, Try.ntmps62
  go_wp2_with fail
  with_reducible refine XN.out.mono ?_
  rintro e w1 ⟨rfl, hin, hfr⟩
  have HIN := hide hin
  have HFR := hide hfr
  clear hin hfr XN
  go_wp2_with fail
  go_loopw [3, 5] (fun s5 s8 wx => ∃ i : Nat, i ≤ N ∧ s8 = .int .i64 (i : Int) ∧ ∃ A2 c2, s5 = .slice A2 i c2 ∧ ∃ (out : List Int) (sti : St), Hid (wx.ownsRow w.heap.size 3 1 (.slice A2 i c2) i (ivs out)) ∧ Hid (PAt B g sti wx) ∧ Hid (Fr g w wx) ∧ Hid (itemsR intS N [] st1 = itemsR intS (N - i) out sti)) (fun _ i _ => N - (intOf i).toNat)
  case atStart => exact ⟨0, Nat.zero_le _, rfl, none, 0, rfl, [], st1, hide (World.ownsRow_nil _ _ _ _), HIN, HFR, hide rfl⟩
  case round =>
    obtain ⟨i, hi', rfl, A2, c2, rfl, out, sti, HO, HI, HF, HE⟩ := hrel
    obtain ⟨IA, IM, IC, Iat, Ibs, hIk, -⟩ := HI.out
    have cb2 := hIk.cell 2
    have hgl := hIk.lt
    simp only [List.getElem?_toArray, List.getElem?_cons_succ, List.getElem?_cons_zero] at cb2
    clear hIk
    by_cases hlt1 : i < N
    · have hlt2 : (i : Int) < (N : Int) := by omega
      cases hsb : sti.2 with
      | true =>
        rw [hsb] at cb2
        have HEb : Hid (itemsR intS N [] st1 = (out, sti)) := hide (by rw [HE.out, itemsR_bad _ _ _ _ hsb])
        clear hsb
        go_wp2_with fail
        go_ret
        refine ⟨A2, i, c2, rfl, ?_, ?_, HF.out⟩
        · rw [HEb.out]
          exact HO.out
        · rw [HEb.out]
          exact HI.out
      | false =>
        rw [hsb] at cb2
        obtain ⟨k, hk⟩ : ∃ k, N - i = k + 1 := ⟨N - i - 1, by omega⟩
        have HE2 : Hid (itemsR intS N [] st1 = itemsR intS k (out ++ [(intS sti).1]) (intS sti).2) := hide (by rw [HE.out, hk, itemsR_step _ _ _ _ hsb])
        have XC := hide (rint_any B g sti wr HI.out)
        have v1 : IntKind.i64.wrap ((i : Int) + 1) = (i : Int) + 1 := by simp [IntKind.wrap, IntKind.bits, IntKind.signed]; omega
        generalize intS sti = r at *
        obtain ⟨x, sj⟩ := r
        dsimp only at XC HE2
        clear hsb
        go_wp2_with fail
        refine XC.out.mono ?_
        rintro e3 w3 ⟨rfl, hin, hfr⟩
        have hbase : w.heap.size ≤ w3.heap.size := Nat.le_trans HF.out.1 hfr.1
        have HO3 := hide (own_at HO.out (fun y hy hy2 => hfr.2 y hy2 (by omega)))
        have HF3 := hide (HF.out.trans hfr)
        have HIN3 := hide hin
        have hr1 := one_int w3 x
        have hO1 := World.ownsRow.alloc HO3.out (.cells #[.int .i64 x] 3)
        clear hin hfr XC cb2 hgl
        go_wp2_with (at_builtin; (refine wpList_append_any _ rfl (.tmp 20) (.tmp 23) 24 rfl w.heap.size 3 i0 _ 1 8 Try.underlying24 hi0 hz0 hz1 hz2 rfl (by omega) (.slice A2 i c2) i (ivs out) rfl hO1 (w3.heap.size + 1) (some ⟨w3.heap.size, 0, none⟩) 1 1 (ivs [x]) rfl hr1 (ivs_one _) ?c1 ?c2 ?c3 ?_))
        case c1 => unfold maxLen; omega
        case c2 => omega
        case c3 => simp; omega
        intro v9 w9 hown9 hg9 hat9
        obtain ⟨A9, k9, rfl⟩ := own_slice hown9
        rw [ivs_snoc] at hown9
        have HO9 := hide hown9
        have hlow : ∀ y, y < w.heap.size → w9.heap[y]? = w3.heap[y]? := fun y hy => by
          rw [hg9.block y (by simp; omega) (by
            intro h
            have := (World.ownsRow.lt HO3.out y h.symm).1
            omega)]
          exact Below.heap_alloc w3 _ y (by omega)
        have hs9 : w3.heap.size ≤ w9.heap.size := by have := hg9.size; simp at this; omega
        have HI9 := hide (HIN3.out.keep (fun y hy => hlow y (by omega)) hs9)
        have HF9 : Hid (Fr g w w9) := hide ⟨Nat.le_trans hbase hs9, fun y hy hn => (hlow y hy).trans (HF3.out.2 y hy hn), hg9.os.trans HF3.out.os, hg9.tape.trans HF3.out.tape, hg9.output.trans HF3.out.output⟩
        have HE9 : Hid (itemsR intS N [] st1 = itemsR intS (N - (i + 1)) (out ++ [x]) sj) := hide (by rw [HE2.out, show N - (i + 1) = k by omega])
        clear hown9 hg9 hat9 hO1 hr1 hlow HIN3 HF3 HO3
        go_wp2_with fail
        clear v1
        go_roundw
        case rel => exact ⟨i + 1, by omega, by go_num, A9, k9, rfl, out ++ [x], sj, HO9, HI9, HF9, HE9⟩
        case measure => simp [intOf]; omega
    · obtain rfl : i = N := by omega
      have hlt2 : ¬ (i : Int) < (i : Int) := by omega
      have HE2 : Hid (itemsR intS i [] st1 = (out, sti)) := hide (by rw [HE.out, Nat.sub_self]; rfl)
      clear cb2
      go_wp2_with fail
      go_ret
      refine ⟨A2, i, c2, rfl, ?_, ?_, HF.out⟩
      · rw [HE2.out]
        exact HO.out
      · rw [HE2.out]
        exact HI.out
end Go.Proofs.Ytedacfjkbfgikaa
namespace Go.Proofs.Ytedacfjkbfgikaa
open Go.RowKit
set_option linter.unusedVariables false
def rdA2 (p : RQ × St) : RQ × St := ({ p.1 with args := (listR txtS p.2).1 }, (listR txtS p.2).2)
def rdE2 (p : RQ × St) : RQ × St := ({ p.1 with env := (listR txtS p.2).1 }, (listR txtS p.2).2)
def rdF2 (p : RQ × St) : RQ × St := ({ p.1 with fds := (listR intS p.2).1 }, (listR intS p.2).2)
def rdC (c : UInt8) (p : RQ × St) : RQ × St := if c = 80 then rdP p else if c = 81 then rdP2 p else if c = 72 then rdH p else if c = 78 then rdN p else if c = 70 then rdFl p else if c = 68 then rdD p else if c = 65 then rdA2 p else if c = 69 then rdE2 p else rdF2 p
def rdS (c : UInt8) (p : RQ × St) : RQ × St := if c = 80 then rdP p else if c = 81 then rdP2 p else if c = 72 then rdH p else if c = 78 then rdN p else if c = 70 then rdFl p else if c = 68 then rdD p else if c = 65 then rdA p else if c = 69 then rdE p else rdF p
def foldC (f : UInt8 → RQ × St → RQ × St) (l : LB) (p : RQ × St) : RQ × St := l.foldl (fun q c => f c q) p
theorem listS_short {α : Type} (f : St → α × St) (hs : ∀ st, st.2 = true → (f st).2.2 = true) (st : St) (h : st.2 = true) : (listS f st).2.2 = true := itemsS_short f hs _ _ _ (numS_short h)
theorem rdS_bad (c : UInt8) (p : RQ × St) (h : p.2.2 = true) : (rdS c p).2.2 = true := by
  unfold rdS
  split
  · show (txtS p.2).2.2 = true; exact txtS_short h
  split
  · show (txtS p.2).2.2 = true; exact txtS_short h
  split
  · show (intS p.2).2.2 = true; exact intS_short h
  split
  · show (intS p.2).2.2 = true; exact intS_short h
  split
  · show (intS p.2).2.2 = true; exact intS_short h
  split
  · show (txtS p.2).2.2 = true; exact txtS_short h
  split
  · exact listS_short txtS (fun st h => txtS_short h) _ h
  split
  · exact listS_short txtS (fun st h => txtS_short h) _ h
  · exact listS_short intS (fun st h => intS_short h) _ h
theorem rdC_flag (c : UInt8) (p : RQ × St) : (rdC c p).2.2 = (rdS c p).2.2 ∧ ((rdS c p).2.2 = false → rdC c p = rdS c p) := by
  have t := listR_eq txtS (fun st h => txtS_short h) p.2
  have n := listR_eq intS (fun st h => intS_short h) p.2
  unfold rdC rdS
  repeat' split
  all_goals first
    | exact ⟨rfl, fun _ => rfl⟩
    | exact ⟨t.1, fun h => by unfold rdA2 rdA; rw [t.2 h]⟩
    | exact ⟨t.1, fun h => by unfold rdE2 rdE; rw [t.2 h]⟩
    | exact ⟨n.1, fun h => by unfold rdF2 rdF; rw [n.2 h]⟩
theorem fold_bad : ∀ (l : LB) (p : RQ × St), p.2.2 = true → (foldC rdS l p).2.2 = true
  | [], p, h => h
  | c :: l, p, h => fold_bad l _ (rdS_bad c p h)
theorem fold_flag : ∀ (l : LB) (p q : RQ × St), p.2.2 = q.2.2 → (q.2.2 = false → p = q) → (foldC rdC l p).2.2 = (foldC rdS l q).2.2 ∧ ((foldC rdS l q).2.2 = false → foldC rdC l p = foldC rdS l q)
  | [], p, q, h1, h2 => ⟨h1, h2⟩
  | c :: l, p, q, h1, h2 => by
    refine fold_flag l (rdC c p) (rdS c q) ?_ ?_
    · cases hq : q.2.2 with
      | false => rw [h2 hq]; exact (rdC_flag c q).1
      | true =>
        rw [hq] at h1
        rw [(rdC_flag c p).1, rdS_bad c p h1, rdS_bad c q hq]
    · intro h
      have hq : q.2.2 = false := by
        cases hq : q.2.2 with
        | false => rfl
        | true => rw [rdS_bad c q hq] at h; cases h
      rw [h2 hq]
      exact (rdC_flag c q).2 h
theorem fold_dec (op : Int) (h1 : 1 ≤ op) (h2 : op ≤ 16) (st : St) : foldC rdS (fieldsP op) (zQ op, st) = decX (reqU op).1 op st := by
  rcases ops16 h1 h2 with rfl | rfl | rfl | rfl | rfl | rfl | rfl | rfl | rfl | rfl | rfl | rfl | rfl | rfl | rfl | rfl <;> kernel_rfl
def refQ (bs : LB) : RQ × St := foldC rdC (fieldsP (numS 1 (bs, false)).1) (zQ (numS 1 (bs, false)).1, (numS 1 (bs, false)).2)
def refD (bs : LB) : Option RQ := if (!(refQ bs).2.2 && ((refQ bs).1.ok && (encQ (refQ bs).1 == bs))) = true then some (refQ bs).1 else none
theorem numS_one (b : UInt8) (rest : LB) : numS 1 (b :: rest, false) = (b.toNat, (rest, false)) := by
  unfold numS takeS
  rw [if_neg (by simp)]
  simp [numB]
theorem req_in0 {op : Int} (h1 : 1 ≤ op) (h2 : op ≤ 16) : (op, (reqU op).1) ∈ reqL ∧ (reqU op).2 = true := by
  rcases ops16 h1 h2 with rfl | rfl | rfl | rfl | rfl | rfl | rfl | rfl | rfl | rfl | rfl | rfl | rfl | rfl | rfl | rfl <;> exact ⟨by decide, rfl⟩
theorem refD_eq (bs : LB) : refD bs = decP bs := by
  cases bs with
  | nil => kernel_rfl
  | cons b rest =>
    have hb := b.toNat_lt
    unfold refD refQ decP
    rw [numS_one]
    dsimp only
    by_cases hop : 1 ≤ (b.toNat : Int) ∧ (b.toNat : Int) ≤ 16
    · obtain ⟨hm, hk⟩ := req_in0 hop.1 hop.2
      rw [if_pos hk]
      obtain ⟨f1, f2⟩ := fold_flag (fieldsP (b.toNat : Int)) (zQ (b.toNat : Int), (rest, false)) _ rfl (fun _ => rfl)
      rw [fold_dec _ hop.1 hop.2] at f1 f2
      unfold decV
      have hback := fun r' (h : (decX (reqU (b.toNat : Int)).1 (b.toNat : Int) (rest, false)).2 = (r', false)) => decX_back _ _ _ _ h
      cases hbad : (decX (reqU (b.toNat : Int)).1 (b.toNat : Int) (rest, false)).2.2 with
      | true =>
        rw [f1, hbad]
        simp
      | false =>
        rw [f2 hbad, hbad]
        generalize decX (reqU (b.toNat : Int)).1 (b.toNat : Int) (rest, false) = X at *
        obtain ⟨r, r', fl⟩ := X
        dsimp only at hbad hback ⊢
        subst hbad
        obtain ⟨e1, e2, e3, e4⟩ := hback r' rfl
        injection e1 with e1
        have hE : (encQ r == b :: rest) = r'.isEmpty := by
          unfold encQ
          rw [e4, e1]
          have hob : opB (b.toNat : Int) = b := by unfold opB; simp
          rw [hob]
          cases r' with
          | nil => simp
          | cons x l =>
            have hne : ¬ (b :: catP (encS (reqU (b.toNat : Int)).1 r)) = b :: (catP (encS (reqU (b.toNat : Int)).1 r) ++ x :: l) := by
              intro h
              injection h with _ h
              have := congrArg List.length h
              simp at this
            rw [beq_false_of_ne hne]
            rfl
        rw [hE]
        cases r'.isEmpty <;> cases r.ok <;> rfl
    · have hk : (reqU (b.toNat : Int)).2 = false := by
        cases hk : (reqU (b.toNat : Int)).2 with
        | false => rfl
        | true => exact absurd (op_range hk) hop
      rw [hk, show fieldsP (b.toNat : Int) = [] from if_neg hop]
      have hno : (zQ (b.toNat : Int)).ok = false := by
        unfold RQ.ok
        rw [show (zQ (b.toNat : Int)).op = (b.toNat : Int) from rfl, hk]
        rfl
      show (if (!false && ((zQ (b.toNat : Int)).ok && _)) = true then _ else none) = _
      rw [hno]
      rfl
theorem itemsR_le {α : Type} (f : St → α × St) : ∀ (k : Nat) (out : List α) (st : St), (itemsR f k out st).1.length ≤ out.length + k
  | 0, out, st => Nat.le_refl _
  | k + 1, out, st => by
    unfold itemsR
    split
    · dsimp only; omega
    · have := itemsR_le f k (out ++ [(f st).1]) (f st).2
      simp at this
      omega
theorem listR_le {α : Type} (f : St → α × St) (st : St) : (listR f st).1.length ≤ 255 := by
  have h := itemsR_le f (numS 1 st).1 [] (numS 1 st).2
  have h2 := num1_lt st
  unfold listR
  simp at h
  omega
def lensQ (r : RQ) : Prop := r.args.length ≤ 255 ∧ r.env.length ≤ 255 ∧ r.fds.length ≤ 255
theorem lensI (r : RQ) (x : Int) (h : lensQ r) : lensQ { r with h := x } ∧ lensQ { r with n := x } ∧ lensQ { r with fl := x } := ⟨⟨h.1, h.2.1, h.2.2⟩, ⟨h.1, h.2.1, h.2.2⟩, ⟨h.1, h.2.1, h.2.2⟩⟩
theorem lensT (r : RQ) (x : LB) (h : lensQ r) : lensQ { r with p := x } ∧ lensQ { r with p2 := x } ∧ lensQ { r with d := x } := ⟨⟨h.1, h.2.1, h.2.2⟩, ⟨h.1, h.2.1, h.2.2⟩, ⟨h.1, h.2.1, h.2.2⟩⟩
theorem lens_rdP (p : RQ × St) (h : lensQ p.1) : lensQ (rdP p).1 := (lensT p.1 (txtS p.2).1 h).1
theorem lens_rdP2 (p : RQ × St) (h : lensQ p.1) : lensQ (rdP2 p).1 := (lensT p.1 (txtS p.2).1 h).2.1
theorem lens_rdH (p : RQ × St) (h : lensQ p.1) : lensQ (rdH p).1 := (lensI p.1 (intS p.2).1 h).1
theorem lens_rdN (p : RQ × St) (h : lensQ p.1) : lensQ (rdN p).1 := (lensI p.1 (intS p.2).1 h).2.1
theorem lens_rdFl (p : RQ × St) (h : lensQ p.1) : lensQ (rdFl p).1 := (lensI p.1 (intS p.2).1 h).2.2
theorem lens_rdD (p : RQ × St) (h : lensQ p.1) : lensQ (rdD p).1 := (lensT p.1 (txtS p.2).1 h).2.2
theorem rdC_lens (c : UInt8) (p : RQ × St) (h : lensQ p.1) : lensQ (rdC c p).1 := by
  have k1 := lens_rdP p h
  have k2 := lens_rdP2 p h
  have k3 := lens_rdH p h
  have k4 := lens_rdN p h
  have k5 := lens_rdFl p h
  have k6 := lens_rdD p h
  have k7 : lensQ (rdA2 p).1 := ⟨listR_le txtS p.2, h.2.1, h.2.2⟩
  have k8 : lensQ (rdE2 p).1 := ⟨h.1, listR_le txtS p.2, h.2.2⟩
  have k9 : lensQ (rdF2 p).1 := ⟨h.1, h.2.1, listR_le intS p.2⟩
  unfold rdC
  generalize rdP p = q1 at *
  generalize rdP2 p = q2 at *
  generalize rdH p = q3 at *
  generalize rdN p = q4 at *
  generalize rdFl p = q5 at *
  generalize rdD p = q6 at *
  generalize rdA2 p = q7 at *
  generalize rdE2 p = q8 at *
  generalize rdF2 p = q9 at *
  repeat' split
  all_goals assumption
theorem fold_next (f : UInt8 → RQ × St → RQ × St) (l : LB) (p : RQ × St) (i : Nat) (x : UInt8) (hx : l[i]? = some x) : foldC f (l.take (i + 1)) p = f x (foldC f (l.take i) p) := by
  unfold foldC
  rw [List.take_add_one, hx, List.foldl_append]
  rfl
/-- A row in a block from B on. -/
def FR (B : Nat) (w : World) (D : Option Addr) (n : Nat) (xs : List Value) : Prop := Reads w w.heap.size 1 D n xs ∧ ∀ ad, D = some ad → 0 < n → B ≤ ad.block
theorem FR.nil (B : Nat) (w : World) : FR B w none 0 [] := ⟨Reads.none_, fun ad h => by cases h⟩
theorem FR.keep {B : Nat} {w w' : World} {D : Option Addr} {n : Nat} {xs : List Value} (h : FR B w D n xs) (hk : ∀ x, B ≤ x → x < w.heap.size → w'.heap[x]? = w.heap[x]?) (hs : w.heap.size ≤ w'.heap.size) : FR B w' D n xs := by
  refine ⟨⟨h.1.1, fun h0 => ?_⟩, h.2⟩
  obtain ⟨ad, rfl, hb, hc⟩ := h.1.2 h0
  refine ⟨ad, rfl, by omega, fun j u hu => ?_⟩
  rw [← hc j u hu]
  refine World.cell?_of_block ?_
  rw [block_of_add]
  exact hk _ (h.2 ad rfl h0) hb
theorem FR.own {B : Nat} {w : World} {e : TypeId} {D : Option Addr} {n c : Nat} {xs : List Value} (h : w.ownsRow B e 1 (.slice D n c) n xs) : FR B w D n xs := by
  refine ⟨Reads.of_own h, fun ad hD h0 => ?_⟩
  subst hD
  rcases h.2 with ⟨hv, h1⟩ | ⟨g, cap, cur, hv, hb, -⟩
  · omega
  · injection hv with hv
    injection hv with hv
    rw [hv]
    exact hb
structure DkAt (B gr : Nat) (r : RQ) (w : World) (D A E F : Option Addr) (dn dc an ac en ec fn fc : Nat) : Prop where
  k : Blk w gr 26 (qcs r D A E F dn dc an ac en ec fn fc)
  d : FR B w D dn (bv r.d)
  a : FR B w A an (svs r.args)
  e : FR B w E en (svs r.env)
  f : FR B w F fn (ivs r.fds)
def RK (w0 : World) (b B g gr : Nat) (q : RQ × St) (w : World) : Prop := PAt B g q.2 w ∧ (∃ D dn dc A an ac E en ec F fn fc, DkAt B gr q.1 w D A E F dn dc an ac en ec fn fc) ∧ Below b w0 w ∧ gr < B ∧ b ≤ g ∧ b ≤ gr
theorem RK.ne {w0 : World} {b B g gr : Nat} {q : RQ × St} {w : World} (h : RK w0 b B g gr q w) : gr ≠ g := by
  obtain ⟨⟨A, n, c, a, bs, h1, -⟩, ⟨D, dn, dc, A', an, ac, E, en, ec, F, fn, fc, h2⟩, -⟩ := h
  exact h2.k.ne_ h1 (by decide)
theorem RK.fr {w0 : World} {b B g gr : Nat} {r : RQ} {st st' : St} {w w' : World} (h : RK w0 b B g gr (r, st) w) (hi : PAt B g st' w') (hf : Fr g w w') : RK w0 b B g gr (r, st') w' := by
  have hne := h.ne
  obtain ⟨h1, ⟨D, dn, dc, A, an, ac, E, en, ec, F, fn, fc, h2⟩, h4, h5, h6, h7⟩ := h
  have hg := h1.lt
  have hk : ∀ x, B ≤ x → x < w.heap.size → w'.heap[x]? = w.heap[x]? := fun x hx hl => hf.block x hl (by omega)
  exact ⟨hi, ⟨D, dn, dc, A, an, ac, E, en, ec, F, fn, fc, ⟨(hf.block gr h2.k.lt hne).trans h2.k, h2.d.keep hk hf.size, h2.a.keep hk hf.size, h2.e.keep hk hf.size, h2.f.keep hk hf.size⟩⟩, h4.trans ⟨hf.os, hf.tape, hf.output, hf.size, fun x hx => hf.block x (by omega) (by omega)⟩, h5, h6, h7⟩
theorem RK.set_ {w0 : World} {b B g gr : Nat} {r r' : RQ} {st : St} {w : World} (h : RK w0 b B g gr (r, st) w) (i : Nat) (u : Value) (hi : i < 10)
    (hr : ∀ D dn dc A an ac E en ec F fn fc, DkAt B gr r w D A E F dn dc an ac en ec fn fc → ∃ D' dn' dc' A' an' ac' E' en' ec' F' fn' fc', (qcs r D A E F dn dc an ac en ec fn fc).setIfInBounds i u = qcs r' D' A' E' F' dn' dc' an' ac' en' ec' fn' fc' ∧ FR B w D' dn' (bv r'.d) ∧ FR B w A' an' (svs r'.args) ∧ FR B w E' en' (svs r'.env) ∧ FR B w F' fn' (ivs r'.fds)) :
    RK w0 b B g gr (r', st) (w.setCell ⟨gr, i, none⟩ u) := by
  have hne := h.ne
  obtain ⟨h1, ⟨D, dn, dc, A, an, ac, E, en, ec, F, fn, fc, h2⟩, h4, h5, h6, h7⟩ := h
  obtain ⟨D', dn', dc', A', an', ac', E', en', ec', F', fn', fc', m1, m2, m3, m4, m5⟩ := hr D dn dc A an ac E en ec F fn fc h2
  obtain ⟨IA, In, Ic, Iat, Ibs, n1, n2, n3, n4, n5, n6, n7, n8⟩ := h1
  have hk : ∀ x, B ≤ x → x < w.heap.size → (w.setCell ⟨gr, i, none⟩ u).heap[x]? = w.heap[x]? := fun x hx hl => Below.heap_setCell w ⟨gr, i, none⟩ u x (by show x ≠ gr; omega)
  refine ⟨⟨IA, In, Ic, Iat, Ibs, n1.far (p := ⟨gr, i, none⟩) (fun e => hne e.symm) u, reads_blk n2 h2.k (qcs_no _ _ _ _ _ _ _ _ _ _ _ _ _) i u (by simpa [qcs] using hi), n3, n4, n5, n6, n7, by simpa using n8⟩, ⟨D', dn', dc', A', an', ac', E', en', ec', F', fn', fc', ⟨m1 ▸ h2.k.set_ i u, m2.keep hk (by simp), m3.keep hk (by simp), m4.keep hk (by simp), m5.keep hk (by simp)⟩⟩, h4.setCell (by exact h7) u, h5, h6, h7⟩
theorem RK.cell {w0 : World} {b B g gr : Nat} {q : RQ × St} {w : World} (h : RK w0 b B g gr q w) : ∃ v1 v2 v3 v4 v5 v6 v7 v8 v9, Blk w gr 26 #[.int .i64 q.1.op, v1, v2, v3, v4, v5, v6, v7, v8, v9] := by
  obtain ⟨_, ⟨D, dn, dc, A, an, ac, E, en, ec, F, fn, fc, h2⟩, -⟩ := h
  exact ⟨_, _, _, _, _, _, _, _, _, h2.k⟩
theorem conv_rd (s : LB) (W : World) : ∃ W' cap, (convert 9 22 (.string ⟨s.toArray⟩)).run Try.prog W = .ok (.slice (some ⟨W.heap.size, 0, none⟩) s.length cap) W' ∧ Reads W' W'.heap.size 1 (some ⟨W.heap.size, 0, none⟩) s.length (bv s) ∧ Below W.heap.size W W' := by
  have h := Lib.run_convert_string_bytes (P := Try.prog) W 9 22 5 ⟨s.toArray⟩ Try.underlying9 Try.underlying22 Try.underlying5
  refine ⟨_, _, h, ⟨by rw [bv_length]; omega, fun _ => ⟨_, rfl, ?_, ?_⟩⟩, Lib.bytesWorld_below W 5 _⟩
  · have := Lib.bytesWorld_at_new W 5 ⟨s.toArray⟩
    rcases Nat.lt_or_ge W.heap.size (Lib.bytesWorld W 5 ⟨s.toArray⟩).heap.size with h | h
    · exact h
    · rw [Array.getElem?_eq_none h] at this; cases this
  · intro j u hu
    rw [at_add, Nat.zero_add, cell_of_row _ _ j _ 5 _ (Lib.bytesWorld_at_new W 5 ⟨s.toArray⟩)]
    unfold Lib.bytesCells
    have hj : j < s.length := by
      rcases Nat.lt_or_ge j s.length with h | h
      · exact h
      · rw [List.getElem?_eq_none (by rw [bv_length]; omega)] at hu; cases hu
    rw [Array.getElem?_append_left (by simpa using hj)]
    simpa [bv] using hu
end Go.Proofs.Ytedacfjkbfgikaa
namespace Go.Proofs.Ytedacfjkbfgikaa
open Go.RowKit
set_option linter.unusedVariables false
def fieldP (r : RQ) (c : UInt8) : LB := if c = 80 then txtP r.p else if c = 81 then txtP r.p2 else if c = 72 then intP r.h else if c = 78 then intP r.n else if c = 70 then intP r.fl else if c = 68 then txtP r.d else if c = 65 then lstP r.args else if c = 69 then lstP r.env else numsP r.fds
def chrs : LB := [80, 81, 72, 78, 70, 68, 65, 69, 84]
set_option maxRecDepth 100000 in
set_option maxHeartbeats 8000000 in
theorem field_any (r : RQ) (D A E F : Option Addr) (dn dc an ac en ec fn fc : Nat) (c : UInt8) (w : World) (h : RdQ w r D A E F dn dc an ac en ec fn fc) (hs : r.small) (hc : c ∈ chrs) :
    Calls Try.prog 42 #[.agg #[.int .i64 r.op, .string ⟨r.p.toArray⟩, .string ⟨r.p2.toArray⟩, .int .i64 r.h, .int .i64 r.n, .int .i64 r.fl, .slice D dn dc, .slice A an ac, .slice E en ec, .slice F fn fc], .int .u8 ((c.toNat : Nat) : Int)] w fun e w' => ∃ A' n' c', e = .returned (.slice A' n' c') ∧ OwB w.heap.size w' A' n' c' (fieldP r c) ∧ Below w.heap.size w w' := by
  obtain ⟨i0, hi, hz0, hz1, hz2⟩ := info_parts infoU8
  have hb := (Below.refl w.heap.size w).alloc (Nat.le_refl _) (.cells #[.int .i64 r.op, .string ⟨r.p.toArray⟩, .string ⟨r.p2.toArray⟩, .int .i64 r.h, .int .i64 r.n, .int .i64 r.fl, .slice D dn dc, .slice A an ac, .slice E en ec, .slice F fn fc] 26)
  have hk := Blk.new w 26 #[.int .i64 r.op, .string ⟨r.p.toArray⟩, .string ⟨r.p2.toArray⟩, .int .i64 r.h, .int .i64 r.n, .int .i64 r.fl, .slice D dn dc, .slice A an ac, .slice E en ec, .slice F fn fc]
  have HB := hide hb
  have hl := hk.lt
  have HR := hide (h.below hb)
  have HS := hide hs
  have hsz := hb.size
  have st := run_string_of (P := Try.prog) (w.alloc (.cells #[.int .i64 r.op, .string ⟨r.p.toArray⟩, .string ⟨r.p2.toArray⟩, .int .i64 r.h, .int .i64 r.n, .int .i64 r.fl, .slice D dn dc, .slice A an ac, .slice E en ec, .slice F fn fc] 26)) _ 22 9 5 D dn dc r.d Try.underlying22 Try.underlying5 Try.underlying9 HR.out.d
  obtain ⟨x0, x1, x2, x3, x4, x5, x6, x7, x8, x9⟩ := blk10 hk
  clear h hb hk hs
  simp only [chrs, List.mem_cons, List.mem_nil_iff, or_false] at hc
  rcases hc with rfl | rfl | rfl | rfl | rfl | rfl | rfl | rfl | rfl
  · have XP := hide (rtext_any r.p (w.alloc (.cells #[.int .i64 r.op, .string ⟨r.p.toArray⟩, .string ⟨r.p2.toArray⟩, .int .i64 r.h, .int .i64 r.n, .int .i64 r.fl, .slice D dn dc, .slice A an ac, .slice E en ec, .slice F fn fc] 26)) (by have := HS.out.2.2.2.2.1; omega))
    go_enter Try.func42, Try.ntmps42
    go_wp2_with fail
    refine XP.out.mono ?_
    rintro e w1 ⟨A1, c1, rfl, ho, hb⟩
    have HO := hide (own_more ho hsz)
    have HB1 := hide (HB.out.trans (hb.mono hsz))
    clear XP ho hb st x0 x1 x2 x3 x4 x5 x6 x7 x8 x9
    go_wp2_with fail
    go_ret
    exact ⟨A1, _, c1, rfl, HO.out, HB1.out⟩
  · have XP := hide (rtext_any r.p2 (w.alloc (.cells #[.int .i64 r.op, .string ⟨r.p.toArray⟩, .string ⟨r.p2.toArray⟩, .int .i64 r.h, .int .i64 r.n, .int .i64 r.fl, .slice D dn dc, .slice A an ac, .slice E en ec, .slice F fn fc] 26)) (by have := HS.out.2.2.2.2.2.1; omega))
    go_enter Try.func42, Try.ntmps42
    go_wp2_with fail
    refine XP.out.mono ?_
    rintro e w1 ⟨A1, c1, rfl, ho, hb⟩
    have HO := hide (own_more ho hsz)
    have HB1 := hide (HB.out.trans (hb.mono hsz))
    clear XP ho hb st x0 x1 x2 x3 x4 x5 x6 x7 x8 x9
    go_wp2_with fail
    go_ret
    exact ⟨A1, _, c1, rfl, HO.out, HB1.out⟩
  · have XP := hide (rnumber_any r.h (w.alloc (.cells #[.int .i64 r.op, .string ⟨r.p.toArray⟩, .string ⟨r.p2.toArray⟩, .int .i64 r.h, .int .i64 r.n, .int .i64 r.fl, .slice D dn dc, .slice A an ac, .slice E en ec, .slice F fn fc] 26)) HS.out.2.1.1 HS.out.2.1.2)
    go_enter Try.func42, Try.ntmps42
    go_wp2_with fail
    refine XP.out.mono ?_
    rintro e w1 ⟨A1, c1, rfl, ho, hb⟩
    have HO := hide (own_more ho hsz)
    have HB1 := hide (HB.out.trans (hb.mono hsz))
    clear XP ho hb st x0 x1 x2 x3 x4 x5 x6 x7 x8 x9
    go_wp2_with fail
    go_ret
    exact ⟨A1, _, c1, rfl, HO.out, HB1.out⟩
  · have XP := hide (rnumber_any r.n (w.alloc (.cells #[.int .i64 r.op, .string ⟨r.p.toArray⟩, .string ⟨r.p2.toArray⟩, .int .i64 r.h, .int .i64 r.n, .int .i64 r.fl, .slice D dn dc, .slice A an ac, .slice E en ec, .slice F fn fc] 26)) HS.out.2.2.1.1 HS.out.2.2.1.2)
    go_enter Try.func42, Try.ntmps42
    go_wp2_with fail
    refine XP.out.mono ?_
    rintro e w1 ⟨A1, c1, rfl, ho, hb⟩
    have HO := hide (own_more ho hsz)
    have HB1 := hide (HB.out.trans (hb.mono hsz))
    clear XP ho hb st x0 x1 x2 x3 x4 x5 x6 x7 x8 x9
    go_wp2_with fail
    go_ret
    exact ⟨A1, _, c1, rfl, HO.out, HB1.out⟩
  · have XP := hide (rnumber_any r.fl (w.alloc (.cells #[.int .i64 r.op, .string ⟨r.p.toArray⟩, .string ⟨r.p2.toArray⟩, .int .i64 r.h, .int .i64 r.n, .int .i64 r.fl, .slice D dn dc, .slice A an ac, .slice E en ec, .slice F fn fc] 26)) HS.out.2.2.2.1.1 HS.out.2.2.2.1.2)
    go_enter Try.func42, Try.ntmps42
    go_wp2_with fail
    refine XP.out.mono ?_
    rintro e w1 ⟨A1, c1, rfl, ho, hb⟩
    have HO := hide (own_more ho hsz)
    have HB1 := hide (HB.out.trans (hb.mono hsz))
    clear XP ho hb st x0 x1 x2 x3 x4 x5 x6 x7 x8 x9
    go_wp2_with fail
    go_ret
    exact ⟨A1, _, c1, rfl, HO.out, HB1.out⟩
  · have XP := hide (rtext_any r.d (w.alloc (.cells #[.int .i64 r.op, .string ⟨r.p.toArray⟩, .string ⟨r.p2.toArray⟩, .int .i64 r.h, .int .i64 r.n, .int .i64 r.fl, .slice D dn dc, .slice A an ac, .slice E en ec, .slice F fn fc] 26)) (by have := HS.out.2.2.2.2.2.2.1; omega))
    go_enter Try.func42, Try.ntmps42
    go_wp2_with fail
    refine XP.out.mono ?_
    rintro e w1 ⟨A1, c1, rfl, ho, hb⟩
    have HO := hide (own_more ho hsz)
    have HB1 := hide (HB.out.trans (hb.mono hsz))
    clear XP ho hb st x0 x1 x2 x3 x4 x5 x6 x7 x8 x9
    go_wp2_with fail
    go_ret
    exact ⟨A1, _, c1, rfl, HO.out, HB1.out⟩
  · have XP := hide (rlist_any r.args A an ac _ HR.out.a (by have := HS.out.2.2.2.2.2.2.2.1.1; have := rd_len HR.out.a; omega) (by have := HS.out.args; omega))
    go_enter Try.func42, Try.ntmps42
    go_wp2_with fail
    refine XP.out.mono ?_
    rintro e w1 ⟨A1, c1, rfl, ho, hb⟩
    have HO := hide (own_more ho hsz)
    have HB1 := hide (HB.out.trans (hb.mono hsz))
    clear XP ho hb st x0 x1 x2 x3 x4 x5 x6 x7 x8 x9
    go_wp2_with fail
    go_ret
    exact ⟨A1, _, c1, rfl, HO.out, HB1.out⟩
  · have XP := hide (rlist_any r.env E en ec _ HR.out.e (by have := HS.out.2.2.2.2.2.2.2.2.1.1; have := rd_len HR.out.e; omega) (by have := HS.out.env; omega))
    go_enter Try.func42, Try.ntmps42
    go_wp2_with fail
    refine XP.out.mono ?_
    rintro e w1 ⟨A1, c1, rfl, ho, hb⟩
    have HO := hide (own_more ho hsz)
    have HB1 := hide (HB.out.trans (hb.mono hsz))
    clear XP ho hb st x0 x1 x2 x3 x4 x5 x6 x7 x8 x9
    go_wp2_with fail
    go_ret
    exact ⟨A1, _, c1, rfl, HO.out, HB1.out⟩
  · have HL : Hid (r.fds.length = fn) := hide (ri_len HR.out.f).symm
    have hn3 : fn ≤ 3 := by have := HS.out.2.2.2.2.2.2.2.2.2.1; rw [← HL.out]; exact this
    have hcT := HS.out.fds
    have hT : (catP (r.fds.map intP)).length ≤ 500000 := by omega
    have HT := hide hT
    have hw := one_byte fn
    have HRF := hide HR.out.f
    have hs1 : (w.alloc (.cells #[.int .i64 r.op, .string ⟨r.p.toArray⟩, .string ⟨r.p2.toArray⟩, .int .i64 r.h, .int .i64 r.n, .int .i64 r.fl, .slice D dn dc, .slice A an ac, .slice E en ec, .slice F fn fc] 26)).heap.size = w.heap.size + 1 := by simp
    have HI0 : Hid (OwB w.heap.size ((w.alloc (.cells #[.int .i64 r.op, .string ⟨r.p.toArray⟩, .string ⟨r.p2.toArray⟩, .int .i64 r.h, .int .i64 r.n, .int .i64 r.fl, .slice D dn dc, .slice A an ac, .slice E en ec, .slice F fn fc] 26)).alloc (.cells #[.int .u8 (((UInt8.ofNat fn).toNat : Nat) : Int)] 5)) (some ⟨w.heap.size + 1, 0, none⟩) 1 1 (be 1 fn)) := hide (by
      rw [be_one, ← hs1]
      exact (Blk.new _ 5 #[.int .u8 (((UInt8.ofNat fn).toNat : Nat) : Int)]).own (by simp) (cap := 1) (by unfold maxLen; omega) rfl)
    have HB0 := hide (HB.out.alloc hsz (.cells #[.int .u8 (((UInt8.ofNat fn).toNat : Nat) : Int)] 5))
    have HK0 := hide ((Blk.new w 26 #[.int .i64 r.op, .string ⟨r.p.toArray⟩, .string ⟨r.p2.toArray⟩, .int .i64 r.h, .int .i64 r.n, .int .i64 r.fl, .slice D dn dc, .slice A an ac, .slice E en ec, .slice F fn fc]).alloc (.cells #[.int .u8 (((UInt8.ofNat fn).toNat : Nat) : Int)] 5))
    have HRF0 := hide ((HRF.out.below ((Below.refl _ (w.alloc (.cells #[.int .i64 r.op, .string ⟨r.p.toArray⟩, .string ⟨r.p2.toArray⟩, .int .i64 r.h, .int .i64 r.n, .int .i64 r.fl, .slice D dn dc, .slice A an ac, .slice E en ec, .slice F fn fc] 26))).alloc (Nat.le_refl _) (.cells #[.int .u8 (((UInt8.ofNat fn).toNat : Nat) : Int)] 5))))
    have h64 : ∀ x ∈ r.fds, -9223372036854775808 ≤ x ∧ x ≤ 9223372036854775807 := fun x hx => HS.out.2.2.2.2.2.2.2.2.2.2 x hx
    have H64 := hide h64
    generalize UInt8.ofNat fn = nb at *
    clear hT h64 hcT HR HRF st hs1
    rw [show (((84 : UInt8).toNat : Nat) : Int) = 84 from rfl]
    go_enter Try.func42, Try.ntmps42
    go_wp2_with fail
    clear hw x0 x1 x2 x3 x4 x5 x6 x7 x8 x9
    go_loopw [5, 6] (fun s5 s14 wx => ∃ i : Nat, i ≤ fn ∧ s14 = .int .i64 (i : Int) ∧ ∃ A2 c2, s5 = .slice A2 (1 + (catP ((r.fds.take i).map intP)).length) c2 ∧ Hid (OwB w.heap.size wx A2 (1 + (catP ((r.fds.take i).map intP)).length) c2 (be 1 fn ++ catP ((r.fds.take i).map intP))) ∧ Hid (Below w.heap.size w wx) ∧ Hid (Blk wx w.heap.size 26 #[.int .i64 r.op, .string ⟨r.p.toArray⟩, .string ⟨r.p2.toArray⟩, .int .i64 r.h, .int .i64 r.n, .int .i64 r.fl, .slice D dn dc, .slice A an ac, .slice E en ec, .slice F fn fc]) ∧ Hid (Reads wx (w.heap.size + 1) 1 F fn (ivs r.fds))) (fun _ i _ => fn - (intOf i).toNat)
    case atStart => exact ⟨0, Nat.zero_le _, rfl, some ⟨w.heap.size + 1, 0, none⟩, 1, rfl, by simpa [catP] using HI0, HB0, HK0, hide (by have := HRF0.out; simpa using this)⟩
    case round =>
      obtain ⟨i, hi', rfl, A2, c2, rfl, HI, HBx, HKx, HFx⟩ := hrel
      have hlx := HKx.out.lt
      have x9 := HKx.out.cell 9
      simp only [List.getElem?_toArray, List.getElem?_cons_succ, List.getElem?_cons_zero] at x9
      by_cases hlt : i < fn
      · have hlt1 : (i : Int) < (fn : Int) := by omega
        obtain ⟨ad, u, rfl, hab, hu, hcell⟩ := HFx.out.at_ hlt
        obtain ⟨x, hx⟩ : ∃ x, r.fds[i]? = some x := ⟨r.fds[i]'(by rw [HL.out]; exact hlt), List.getElem?_eq_getElem _⟩
        have hux : u = .int .i64 x := by
          have h := hu
          simp only [ivs, List.getElem?_map, hx, Option.map_some, Option.some.injEq] at h
          exact h.symm
        subst hux
        have HX := hide hx
        have HC := hide (catP_take intP r.fds i x hx)
        have hcl := catP_le intP r.fds (i + 1)
        rw [HC.out, List.length_append] at hcl
        have hT := HT.out
        obtain ⟨hx1, hx2⟩ := H64.out x (List.mem_of_getElem? hx)
        have XI := hide (rnumber_any x wr hx1 hx2)
        have hbd : (catP ((r.fds.take i).map intP)).length + 4 ≤ 500000 := by rw [int_len] at hcl; omega
        have v1 : IntKind.i64.wrap ((i : Int) + 1) = (i : Int) + 1 := by simp [IntKind.wrap, IntKind.bits, IntKind.signed]; omega
        generalize hL : (catP ((r.fds.take i).map intP)).length = L at *
        clear hx hu hT
        go_wp2_with fail
        refine XI.out.mono ?_
        rintro e3 w3 ⟨A3, c3, rfl, ho3, hb3⟩
        have hbase : w.heap.size ≤ w3.heap.size := Nat.le_trans HBx.out.size hb3.size
        have HI3 : Hid (OwB w.heap.size w3 A2 (1 + L) c2 (be 1 fn ++ catP ((r.fds.take i).map intP))) := hide (HI.out.below hb3)
        have HB3 : Hid (Below w.heap.size w w3) := hide (HBx.out.trans (hb3.mono HBx.out.size))
        have HK3 := hide (HKx.out.below hb3 hlx)
        have HF3 : Hid (Reads w3 (w.heap.size + 1) 1 (some ad) fn (ivs r.fds)) := hide (HFx.out.below (hb3.mono (by omega)))
        have HO3 := hide ho3
        clear ho3 hb3 XI hcell
        go_wp2_with (at_builtin; (refine wpList_append_any _ rfl (.tmp 61) (.tmp 67) 22 rfl w.heap.size 5 i0 _ 1 1 Try.underlying22 hi hz0 hz1 hz2 rfl (by omega) (.slice A2 (1 + L) c2) (1 + L) (bv (be 1 fn ++ catP ((r.fds.take i).map intP))) rfl (by exact HI3.out) _ A3 4 c3 (bv (intP x)) rfl (by exact HO3.out.rd) (bv_one _) ?c1 ?c2 ?c3 ?_))
        case c1 => unfold maxLen; omega
        case c2 => omega
        case c3 => exact hbase
        intro v9 w9 hown9 hg9 hat9
        obtain ⟨A9, k9, rfl⟩ := own_slice hown9
        rw [← bv_append, List.append_assoc] at hown9
        simp only [← List.map_take] at hown9
        rw [← HC.out] at hown9
        have hL2 : (catP ((r.fds.take (i + 1)).map intP)).length = L + 4 := by rw [HC.out, List.length_append, hL, int_len]
        have HI9 : Hid (OwB w.heap.size w9 A9 (1 + (catP ((r.fds.take (i + 1)).map intP)).length) k9 (be 1 fn ++ catP ((r.fds.take (i + 1)).map intP))) := hide (by rw [hL2, ← Nat.add_assoc]; exact hown9)
        have HB9 : Hid (Below w.heap.size w w9) := hide (HB3.out.grown hg9 hbase (fun g hg => (World.ownsRow.lt HI3.out g hg).1))
        have hne := own_blk_ne HI3.out HK3.out (by decide)
        have HK9 := hide (HK3.out.grown hg9 hne.symm)
        have HF9 : Hid (Reads w9 (w.heap.size + 1) 1 (some ad) fn (ivs r.fds)) := hide (by
          refine HF3.out.keep fun p hp => ?_
          by_cases hpb : p.block = w.heap.size
          · exact World.cell?_of_block (by rw [hpb]; exact HK9.out.trans HK3.out.symm)
          · exact World.cell?_of_block (HB9.out.block p.block (by omega) |>.trans (HB3.out.block p.block (by omega)).symm))
        have HL2 := hide hL2
        clear hown9 hg9 hat9 HI3 HB3 HO3 hL2 HK3 HF3 hne x9
        go_wp2_with fail
        go_roundw
        case rel =>
          exact ⟨i + 1, by omega, by go_num, A9, k9, by rw [HL2.out]; congr 1 <;> omega, HI9, HB9, HK9, HF9⟩
        case measure => simp [intOf]; omega
      · obtain rfl : i = fn := by omega
        have hlt1 : ¬ (i : Int) < (i : Int) := by omega
        have hall : r.fds.take i = r.fds := List.take_of_length_le (by rw [HL.out]; exact Nat.le_refl _)
        rw [hall] at HI ⊢
        go_wp2_with fail
        go_ret
        refine ⟨A2, _, c2, rfl, ?_, HBx.out⟩
        show OwB _ _ _ _ _ (numsP r.fds)
        unfold numsP
        rw [HL.out]
        exact HI.out
end Go.Proofs.Ytedacfjkbfgikaa
namespace Go.Proofs.Ytedacfjkbfgikaa
open Go.RowKit
set_option linter.unusedVariables false
set_option maxRecDepth 100000 in
set_option maxHeartbeats 40000000 in
theorem rchkx7 (op h n fl : Int) (p p2 : LB) (fds : List Int) (args env : List LB) (D A E F : Option Addr) (dn dc an ac en ec fn fc : Nat) (w : World) (h1 : 1 ≤ op) (h2 : op ≤ 16) (hlf : fieldsP op = [80, 65, 69, 84]) (b : Bool) (hA : Reads w w.heap.size 1 A an (svs args)) (hE : Reads w w.heap.size 1 E en (svs env)) (hF : Reads w w.heap.size 1 F fn (ivs fds)) (hn : an ≤ 1000 ∧ en ≤ 1000 ∧ fn ≤ 100000)
    (hb0 : b = ((!badU ([80, 65, 69, 84] : LB) h n fl p p2 dn an en && !badT (hasC 84 ([80, 65, 69, 84] : LB)) fn) && fds.all wideP && (decide (p.length ≤ 256) && decide (p2.length ≤ 256) && wideP h && wideP n && wideP fl && decide (dn ≤ 2048) && txsP 256 args 16 && txsP 256 env 32))) :
    Calls Try.prog 16 #[.agg #[.int .i64 op, .string ⟨p.toArray⟩, .string ⟨p2.toArray⟩, .int .i64 h, .int .i64 n, .int .i64 fl, .slice D dn dc, .slice A an ac, .slice E en ec, .slice F fn fc]] w fun e w' => e = .returned (.bool b) ∧ Below w.heap.size w w' := by
  have HV := hide hb0
  have HRA := hide hA
  have HRE := hide hE
  have HRF := hide hF
  clear hA hE hF hb0
  have hb := (Below.refl w.heap.size w).alloc (Nat.le_refl _) (.cells #[.int .i64 op, .string ⟨p.toArray⟩, .string ⟨p2.toArray⟩, .int .i64 h, .int .i64 n, .int .i64 fl, .slice D dn dc, .slice A an ac, .slice E en ec, .slice F fn fc] 26)
  have hk := Blk.new w 26 #[.int .i64 op, .string ⟨p.toArray⟩, .string ⟨p2.toArray⟩, .int .i64 h, .int .i64 n, .int .i64 fl, .slice D dn dc, .slice A an ac, .slice E en ec, .slice F fn fc]
  have HB := hide hb
  have HK := hide hk
  have hl := hk.lt
  have XF := hide (fun W => fields_any op W)
  simp only [hlf] at XF
  clear hb
  obtain ⟨x0, x1, x2, x3, x4, x5, x6, x7, x8, x9⟩ := blk10 hk
  clear hk
  have o1 : ¬ op < 1 := by omega
  have o2 : ¬ 16 < op := by omega
  go_enter Try.func16, Try.ntmps16
  go_wp2_with fail
  refine (XF.out _).mono ?_
  rintro e w1 ⟨rfl, hb1⟩
  have HB1 := hide (below_more HB.out (Nat.le_refl _) hb1)
  have HK1 := hide (HK.out.below hb1 hl)
  clear hb1 x0 x1 x2 x3 x4 x5 x6 x7 x8 x9 HB HK XF o1 o2 hl
  have hl := HK1.out.lt
  obtain ⟨x0, x1, x2, x3, x4, x5, x6, x7, x8, x9⟩ := blk10 HK1.out
  go_upto_region 4 with (fail)
  go_cut [96, 97, 98, 99, 100, 101, 102, 103, 104, 105, 106, 107, 108, 109, 110, 111, 112, 113, 114, 115, 116, 117, 118, 119, 120, 121, 122, 123, 124, 125, 126, 127, 128, 129, 130, 131, 132, 133, 134, 135, 136, 137, 138, 139, 140, 141, 142, 143, 144, 145, 146, 147, 148, 149, 150, 151, 152, 153, 154, 155, 156, 157, 158, 159, 160, 161, 162, 163, 164, 165, 166, 167, 168, 169, 170] (fun u96 u97 u98 u99 u100 u101 u102 u103 u104 u105 u106 u107 u108 u109 u110 u111 u112 u113 u114 u115 u116 u117 u118 u119 u120 u121 u122 u123 u124 u125 u126 u127 u128 u129 u130 u131 u132 u133 u134 u135 u136 u137 u138 u139 u140 u141 u142 u143 u144 u145 u146 u147 u148 u149 u150 u151 u152 u153 u154 u155 u156 u157 u158 u159 u160 u161 u162 u163 u164 u165 u166 u167 u168 u169 u170 wx => u96 = .bool (badU ([80, 65, 69, 84] : LB) h n fl p p2 dn an en) ∧ wx = w1 ∧ u97 = undef ∧ u98 = undef ∧ u99 = undef ∧ u100 = undef ∧ u101 = undef ∧ u102 = undef ∧ u103 = undef ∧ u104 = undef ∧ u105 = undef ∧ u106 = undef ∧ u107 = undef ∧ u108 = undef ∧ u109 = undef ∧ u110 = undef ∧ u111 = undef ∧ u112 = undef ∧ u113 = undef ∧ u114 = undef ∧ u115 = undef ∧ u116 = undef ∧ u117 = undef ∧ u118 = undef ∧ u119 = undef ∧ u120 = undef ∧ u121 = undef ∧ u122 = undef ∧ u123 = undef ∧ u124 = undef ∧ u125 = undef ∧ u126 = undef ∧ u127 = undef ∧ u128 = undef ∧ u129 = undef ∧ u130 = undef ∧ u131 = undef ∧ u132 = undef ∧ u133 = undef ∧ u134 = undef ∧ u135 = undef ∧ u136 = undef ∧ u137 = undef ∧ u138 = undef ∧ u139 = undef ∧ u140 = undef ∧ u141 = undef ∧ u142 = undef ∧ u143 = undef ∧ u144 = undef ∧ u145 = undef ∧ u146 = undef ∧ u147 = undef ∧ u148 = undef ∧ u149 = undef ∧ u150 = undef ∧ u151 = undef ∧ u152 = undef ∧ u153 = undef ∧ u154 = undef ∧ u155 = undef ∧ u156 = undef ∧ u157 = undef ∧ u158 = undef ∧ u159 = undef ∧ u160 = undef ∧ u161 = undef ∧ u162 = undef ∧ u163 = undef ∧ u164 = undef ∧ u165 = undef ∧ u166 = undef ∧ u167 = undef ∧ u168 = undef ∧ u169 = undef ∧ u170 = undef)
  case first =>
    go_step
    simp only [List.append_eq, List.cons_append, List.nil_append]
    have HBAD : Hid (badU [80, 65, 69, 84] h n fl p p2 dn an en = ((false && !p.isEmpty) || (true && !p2.isEmpty) || (true && (h != 0)) || (true && (n != 0)) || (true && (fl != 0)) || (true && decide (0 < dn)) || (false && decide (0 < an)) || (false && decide (0 < en)))) := hide rfl
    have X80 : Hid (Calls Try.prog 70 #[.string ⟨#[80, 65, 69, 84]⟩, .int .u8 80] w1 fun e w' => e = .returned (.bool true) ∧ w1 = w') := hide (has_any [80, 65, 69, 84] 80 w1 (by decide))
    have X81 : Hid (Calls Try.prog 70 #[.string ⟨#[80, 65, 69, 84]⟩, .int .u8 81] w1 fun e w' => e = .returned (.bool false) ∧ w1 = w') := hide (has_any [80, 65, 69, 84] 81 w1 (by decide))
    have X72 : Hid (Calls Try.prog 70 #[.string ⟨#[80, 65, 69, 84]⟩, .int .u8 72] w1 fun e w' => e = .returned (.bool false) ∧ w1 = w') := hide (has_any [80, 65, 69, 84] 72 w1 (by decide))
    have X78 : Hid (Calls Try.prog 70 #[.string ⟨#[80, 65, 69, 84]⟩, .int .u8 78] w1 fun e w' => e = .returned (.bool false) ∧ w1 = w') := hide (has_any [80, 65, 69, 84] 78 w1 (by decide))
    have X70 : Hid (Calls Try.prog 70 #[.string ⟨#[80, 65, 69, 84]⟩, .int .u8 70] w1 fun e w' => e = .returned (.bool false) ∧ w1 = w') := hide (has_any [80, 65, 69, 84] 70 w1 (by decide))
    have X68 : Hid (Calls Try.prog 70 #[.string ⟨#[80, 65, 69, 84]⟩, .int .u8 68] w1 fun e w' => e = .returned (.bool false) ∧ w1 = w') := hide (has_any [80, 65, 69, 84] 68 w1 (by decide))
    have X65 : Hid (Calls Try.prog 70 #[.string ⟨#[80, 65, 69, 84]⟩, .int .u8 65] w1 fun e w' => e = .returned (.bool true) ∧ w1 = w') := hide (has_any [80, 65, 69, 84] 65 w1 (by decide))
    have X69 : Hid (Calls Try.prog 70 #[.string ⟨#[80, 65, 69, 84]⟩, .int .u8 69] w1 fun e w' => e = .returned (.bool true) ∧ w1 = w') := hide (has_any [80, 65, 69, 84] 69 w1 (by decide))
    go_wp2_with fail
    with_reducible refine X80.out.mono ?_
    rintro e9 w9 ⟨rfl, rfl⟩
    go_wp2_with fail
    with_reducible refine X81.out.mono ?_
    rintro e9 w9 ⟨rfl, rfl⟩
    cases hq1 : p2.isEmpty with
    | false =>
      obtain ⟨e1, e2, e3⟩ := ne_facts hq1
      go_wp2_with fail
      go_meet
      exact ⟨by rw [HBAD.out, hq1]; rfl, rfl, rfl, rfl, rfl, rfl, rfl, rfl, rfl, rfl, rfl, rfl, rfl, rfl, rfl, rfl, rfl, rfl, rfl, rfl, rfl, rfl, rfl, rfl, rfl, rfl, rfl, rfl, rfl, rfl, rfl, rfl, rfl, rfl, rfl, rfl, rfl, rfl, rfl, rfl, rfl, rfl, rfl, rfl, rfl, rfl, rfl, rfl, rfl, rfl, rfl, rfl, rfl, rfl, rfl, rfl, rfl, rfl, rfl, rfl, rfl, rfl, rfl, rfl, rfl, rfl, rfl, rfl, rfl, rfl, rfl, rfl, rfl, rfl, rfl, rfl⟩
    | true =>
      obtain ⟨f1a, f1b⟩ := eq_facts hq1
      go_wp2_with fail
      with_reducible refine X72.out.mono ?_
      rintro e9 w9 ⟨rfl, rfl⟩
      cases hq2 : (h != 0) with
      | true =>
        go_wp2_with fail
        go_meet
        exact ⟨by rw [HBAD.out, hq1, hq2]; rfl, rfl, rfl, rfl, rfl, rfl, rfl, rfl, rfl, rfl, rfl, rfl, rfl, rfl, rfl, rfl, rfl, rfl, rfl, rfl, rfl, rfl, rfl, rfl, rfl, rfl, rfl, rfl, rfl, rfl, rfl, rfl, rfl, rfl, rfl, rfl, rfl, rfl, rfl, rfl, rfl, rfl, rfl, rfl, rfl, rfl, rfl, rfl, rfl, rfl, rfl, rfl, rfl, rfl, rfl, rfl, rfl, rfl, rfl, rfl, rfl, rfl, rfl, rfl, rfl, rfl, rfl, rfl, rfl, rfl, rfl, rfl, rfl, rfl, rfl, rfl⟩
      | false =>
        go_wp2_with fail
        with_reducible refine X78.out.mono ?_
        rintro e9 w9 ⟨rfl, rfl⟩
        cases hq3 : (n != 0) with
        | true =>
          go_wp2_with fail
          go_meet
          exact ⟨by rw [HBAD.out, hq1, hq2, hq3]; rfl, rfl, rfl, rfl, rfl, rfl, rfl, rfl, rfl, rfl, rfl, rfl, rfl, rfl, rfl, rfl, rfl, rfl, rfl, rfl, rfl, rfl, rfl, rfl, rfl, rfl, rfl, rfl, rfl, rfl, rfl, rfl, rfl, rfl, rfl, rfl, rfl, rfl, rfl, rfl, rfl, rfl, rfl, rfl, rfl, rfl, rfl, rfl, rfl, rfl, rfl, rfl, rfl, rfl, rfl, rfl, rfl, rfl, rfl, rfl, rfl, rfl, rfl, rfl, rfl, rfl, rfl, rfl, rfl, rfl, rfl, rfl, rfl, rfl, rfl, rfl⟩
        | false =>
          go_wp2_with fail
          with_reducible refine X70.out.mono ?_
          rintro e9 w9 ⟨rfl, rfl⟩
          cases hq4 : (fl != 0) with
          | true =>
            go_wp2_with fail
            go_meet
            exact ⟨by rw [HBAD.out, hq1, hq2, hq3, hq4]; rfl, rfl, rfl, rfl, rfl, rfl, rfl, rfl, rfl, rfl, rfl, rfl, rfl, rfl, rfl, rfl, rfl, rfl, rfl, rfl, rfl, rfl, rfl, rfl, rfl, rfl, rfl, rfl, rfl, rfl, rfl, rfl, rfl, rfl, rfl, rfl, rfl, rfl, rfl, rfl, rfl, rfl, rfl, rfl, rfl, rfl, rfl, rfl, rfl, rfl, rfl, rfl, rfl, rfl, rfl, rfl, rfl, rfl, rfl, rfl, rfl, rfl, rfl, rfl, rfl, rfl, rfl, rfl, rfl, rfl, rfl, rfl, rfl, rfl, rfl, rfl⟩
          | false =>
            go_wp2_with fail
            with_reducible refine X68.out.mono ?_
            rintro e9 w9 ⟨rfl, rfl⟩
            by_cases hq5 : (0 : Int) < (dn : Int)
            · have hr5 : decide (0 < dn) = true := by simp; omega
              go_wp2_with fail
              go_meet
              exact ⟨by rw [HBAD.out, hq1, hq2, hq3, hq4, hr5]; rfl, rfl, rfl, rfl, rfl, rfl, rfl, rfl, rfl, rfl, rfl, rfl, rfl, rfl, rfl, rfl, rfl, rfl, rfl, rfl, rfl, rfl, rfl, rfl, rfl, rfl, rfl, rfl, rfl, rfl, rfl, rfl, rfl, rfl, rfl, rfl, rfl, rfl, rfl, rfl, rfl, rfl, rfl, rfl, rfl, rfl, rfl, rfl, rfl, rfl, rfl, rfl, rfl, rfl, rfl, rfl, rfl, rfl, rfl, rfl, rfl, rfl, rfl, rfl, rfl, rfl, rfl, rfl, rfl, rfl, rfl, rfl, rfl, rfl, rfl, rfl⟩
            · have hr5 : decide (0 < dn) = false := by simp; omega
              go_wp2_with fail
              with_reducible refine X65.out.mono ?_
              rintro e9 w9 ⟨rfl, rfl⟩
              go_wp2_with fail
              with_reducible refine X69.out.mono ?_
              rintro e9 w9 ⟨rfl, rfl⟩
              go_wp2_with fail
              go_meet
              exact ⟨by rw [HBAD.out, hq1, hq2, hq3, hq4, hr5]; rfl, rfl, rfl, rfl, rfl, rfl, rfl, rfl, rfl, rfl, rfl, rfl, rfl, rfl, rfl, rfl, rfl, rfl, rfl, rfl, rfl, rfl, rfl, rfl, rfl, rfl, rfl, rfl, rfl, rfl, rfl, rfl, rfl, rfl, rfl, rfl, rfl, rfl, rfl, rfl, rfl, rfl, rfl, rfl, rfl, rfl, rfl, rfl, rfl, rfl, rfl, rfl, rfl, rfl, rfl, rfl, rfl, rfl, rfl, rfl, rfl, rfl, rfl, rfl, rfl, rfl, rfl, rfl, rfl, rfl, rfl, rfl, rfl, rfl, rfl, rfl⟩
  case rest =>
    obtain ⟨rfl, rfl, rfl, rfl, rfl, rfl, rfl, rfl, rfl, rfl, rfl, rfl, rfl, rfl, rfl, rfl, rfl, rfl, rfl, rfl, rfl, rfl, rfl, rfl, rfl, rfl, rfl, rfl, rfl, rfl, rfl, rfl, rfl, rfl, rfl, rfl, rfl, rfl, rfl, rfl, rfl, rfl, rfl, rfl, rfl, rfl, rfl, rfl, rfl, rfl, rfl, rfl, rfl, rfl, rfl, rfl, rfl, rfl, rfl, rfl, rfl, rfl, rfl, rfl, rfl, rfl, rfl, rfl, rfl, rfl, rfl, rfl, rfl, rfl, rfl, rfl⟩ := hcut
    have HL84 : ([80, 65, 69, 84] : LB).length ≤ 100000 := by decide
    have XT := hide (fun V => has_any ([80, 65, 69, 84] : LB) 84 V HL84)
    have HRA1 := hide ((HRA.out.below HB1.out).more HB1.out.size)
    have HRE1 := hide ((HRE.out.below HB1.out).more HB1.out.size)
    have HRF1 := hide ((HRF.out.below HB1.out).more HB1.out.size)
    have HFL : Hid (fn = fds.length) := hide (ri_len HRF.out)
    clear HRA HRE HRF HL84
    generalize badU ([80, 65, 69, 84] : LB) h n fl p p2 dn an en = U at *
    generalize hasC 84 ([80, 65, 69, 84] : LB) = T at *
    have XT2 : Hid (∀ V, Calls Try.prog 70 #[.string ⟨#[80, 65, 69, 84]⟩, .int .u8 84] V fun e w' => e = .returned (.bool T) ∧ V = w') := XT
    clear XT
    clear h1 h2 hlf
    cases U with
    | true =>
      go_wp2_with fail
      go_ret
      exact ⟨by rw [HV.out]; rfl, HB1.out⟩
    | false =>
      by_cases hT : badT T fn = true
      · go_upto_region 6 with (fail)
        go_cut [115, 116, 117, 118, 119, 120, 121, 122, 123, 124, 125, 126, 127, 128, 129, 130, 131, 132, 133, 134, 135, 136, 137, 138, 139, 140, 141, 142, 143, 144, 145, 146, 147, 148, 149, 150, 151, 152, 153, 154, 155, 156, 157, 158, 159, 160, 161, 162, 163, 164, 165, 166, 167, 168, 169, 170] (fun u115 u116 u117 u118 u119 u120 u121 u122 u123 u124 u125 u126 u127 u128 u129 u130 u131 u132 u133 u134 u135 u136 u137 u138 u139 u140 u141 u142 u143 u144 u145 u146 u147 u148 u149 u150 u151 u152 u153 u154 u155 u156 u157 u158 u159 u160 u161 u162 u163 u164 u165 u166 u167 u168 u169 u170 wx => u115 = .bool true ∧ u116 = undef ∧ u117 = undef ∧ u118 = undef ∧ u119 = undef ∧ u120 = undef ∧ u121 = undef ∧ u122 = undef ∧ u123 = undef ∧ u124 = undef ∧ u125 = undef ∧ u126 = undef ∧ u127 = undef ∧ u128 = undef ∧ u129 = undef ∧ u130 = undef ∧ u131 = undef ∧ u132 = undef ∧ u133 = undef ∧ u134 = undef ∧ u135 = undef ∧ u136 = undef ∧ u137 = undef ∧ u138 = undef ∧ u139 = undef ∧ u140 = undef ∧ u141 = undef ∧ u142 = undef ∧ u143 = undef ∧ u144 = undef ∧ u145 = undef ∧ u146 = undef ∧ u147 = undef ∧ u148 = undef ∧ u149 = undef ∧ u150 = undef ∧ u151 = undef ∧ u152 = undef ∧ u153 = undef ∧ u154 = undef ∧ u155 = undef ∧ u156 = undef ∧ u157 = undef ∧ u158 = undef ∧ u159 = undef ∧ u160 = undef ∧ u161 = undef ∧ u162 = undef ∧ u163 = undef ∧ u164 = undef ∧ u165 = undef ∧ u166 = undef ∧ u167 = undef ∧ u168 = undef ∧ u169 = undef ∧ u170 = undef ∧ Hid (Below w.heap.size w wx))
        case first =>
          by_cases f3 : fn = 3
          · subst f3
            have hTf : T = false := by cases T
                                       · rfl
                                       · exact absurd hT (by decide)
            subst hTf
            go_quiet ((go_at_call 70; first | with_reducible exact quiet_left (XT2.out _) | with_reducible exact quiet_add_left (XT2.out _)))
            go_wp2_with fail
            go_meet
            exact ⟨rfl, rfl, rfl, rfl, rfl, rfl, rfl, rfl, rfl, rfl, rfl, rfl, rfl, rfl, rfl, rfl, rfl, rfl, rfl, rfl, rfl, rfl, rfl, rfl, rfl, rfl, rfl, rfl, rfl, rfl, rfl, rfl, rfl, rfl, rfl, rfl, rfl, rfl, rfl, rfl, rfl, rfl, rfl, rfl, rfl, rfl, rfl, rfl, rfl, rfl, rfl, rfl, rfl, rfl, rfl, rfl, hide (below_drewP HB1.out _)⟩
          · have e3 : ((fn : Int) == 3) = false := by simp; omega
            have e3b : ((fn : Int) != 3) = true := by simp; omega
            cases T with
            | true =>
              go_quiet ((go_at_call 70; first | with_reducible exact quiet_left (XT2.out _) | with_reducible exact quiet_add_left (XT2.out _)))
              go_wp2_with fail
              go_meet
              exact ⟨rfl, rfl, rfl, rfl, rfl, rfl, rfl, rfl, rfl, rfl, rfl, rfl, rfl, rfl, rfl, rfl, rfl, rfl, rfl, rfl, rfl, rfl, rfl, rfl, rfl, rfl, rfl, rfl, rfl, rfl, rfl, rfl, rfl, rfl, rfl, rfl, rfl, rfl, rfl, rfl, rfl, rfl, rfl, rfl, rfl, rfl, rfl, rfl, rfl, rfl, rfl, rfl, rfl, rfl, rfl, rfl, hide (below_drewP HB1.out _)⟩
            | false =>
              have f0 : ¬ fn = 0 := by
                intro f0
                subst f0
                exact absurd hT (by decide)
              have e0 : ((fn : Int) == 0) = false := by simp; omega
              have e0b : ((fn : Int) != 0) = true := by simp; omega
              go_quiet ((go_at_call 70; first | with_reducible exact quiet_left (XT2.out _) | with_reducible exact quiet_add_left (XT2.out _)))
              go_wp2_with fail
              go_meet
              exact ⟨rfl, rfl, rfl, rfl, rfl, rfl, rfl, rfl, rfl, rfl, rfl, rfl, rfl, rfl, rfl, rfl, rfl, rfl, rfl, rfl, rfl, rfl, rfl, rfl, rfl, rfl, rfl, rfl, rfl, rfl, rfl, rfl, rfl, rfl, rfl, rfl, rfl, rfl, rfl, rfl, rfl, rfl, rfl, rfl, rfl, rfl, rfl, rfl, rfl, rfl, rfl, rfl, rfl, rfl, rfl, rfl, hide (below_drewP HB1.out _)⟩
        case rest =>
          obtain ⟨rfl, rfl, rfl, rfl, rfl, rfl, rfl, rfl, rfl, rfl, rfl, rfl, rfl, rfl, rfl, rfl, rfl, rfl, rfl, rfl, rfl, rfl, rfl, rfl, rfl, rfl, rfl, rfl, rfl, rfl, rfl, rfl, rfl, rfl, rfl, rfl, rfl, rfl, rfl, rfl, rfl, rfl, rfl, rfl, rfl, rfl, rfl, rfl, rfl, rfl, rfl, rfl, rfl, rfl, rfl, rfl, HB2⟩ := hcut
          go_wp2_with fail
          go_ret
          exact ⟨by rw [HV.out, hT]; rfl, HB2.out⟩
      · have hTF : badT T fn = false := by simpa using hT
        have hfn : fn = 3 ∨ fn = 0 := by
          by_cases f3 : fn = 3
          · exact .inl f3
          · by_cases f0 : fn = 0
            · exact .inr f0
            · exfalso
              have a3 : (fn == 3) = false := by simpa using f3
              have a0 : (fn != 0) = true := by simpa using f0
              have a3b : (fn != 3) = true := by simpa using f3
              unfold badT at hTF
              rw [a3, a0, a3b] at hTF
              simp at hTF
        go_upto_region 6 with (fail)
        go_cut [115, 116, 117, 118, 119, 120, 121, 122, 123, 124, 125, 126, 127, 128, 129, 130, 131, 132, 133, 134, 135, 136, 137, 138, 139, 140, 141, 142, 143, 144, 145, 146, 147, 148, 149, 150, 151, 152, 153, 154, 155, 156, 157, 158, 159, 160, 161, 162, 163, 164, 165, 166, 167, 168, 169, 170] (fun u115 u116 u117 u118 u119 u120 u121 u122 u123 u124 u125 u126 u127 u128 u129 u130 u131 u132 u133 u134 u135 u136 u137 u138 u139 u140 u141 u142 u143 u144 u145 u146 u147 u148 u149 u150 u151 u152 u153 u154 u155 u156 u157 u158 u159 u160 u161 u162 u163 u164 u165 u166 u167 u168 u169 u170 wx => u115 = .bool false ∧ u116 = undef ∧ u117 = undef ∧ u118 = undef ∧ u119 = undef ∧ u120 = undef ∧ u121 = undef ∧ u122 = undef ∧ u123 = undef ∧ u124 = undef ∧ u125 = undef ∧ u126 = undef ∧ u127 = undef ∧ u128 = undef ∧ u129 = undef ∧ u130 = undef ∧ u131 = undef ∧ u132 = undef ∧ u133 = undef ∧ u134 = undef ∧ u135 = undef ∧ u136 = undef ∧ u137 = undef ∧ u138 = undef ∧ u139 = undef ∧ u140 = undef ∧ u141 = undef ∧ u142 = undef ∧ u143 = undef ∧ u144 = undef ∧ u145 = undef ∧ u146 = undef ∧ u147 = undef ∧ u148 = undef ∧ u149 = undef ∧ u150 = undef ∧ u151 = undef ∧ u152 = undef ∧ u153 = undef ∧ u154 = undef ∧ u155 = undef ∧ u156 = undef ∧ u157 = undef ∧ u158 = undef ∧ u159 = undef ∧ u160 = undef ∧ u161 = undef ∧ u162 = undef ∧ u163 = undef ∧ u164 = undef ∧ u165 = undef ∧ u166 = undef ∧ u167 = undef ∧ u168 = undef ∧ u169 = undef ∧ u170 = undef ∧ ∃ k, wx = wc.drewN k)
        case first =>
          rcases hfn with f3 | f0
          · subst f3
            have hTf : T = true := by cases T
                                      · exact absurd hTF (by decide)
                                      · rfl
            subst hTf
            go_quiet ((go_at_call 70; first | with_reducible exact quiet_left (XT2.out _) | with_reducible exact quiet_add_left (XT2.out _)))
            go_wp2_with fail
            go_meet
            exact ⟨rfl, rfl, rfl, rfl, rfl, rfl, rfl, rfl, rfl, rfl, rfl, rfl, rfl, rfl, rfl, rfl, rfl, rfl, rfl, rfl, rfl, rfl, rfl, rfl, rfl, rfl, rfl, rfl, rfl, rfl, rfl, rfl, rfl, rfl, rfl, rfl, rfl, rfl, rfl, rfl, rfl, rfl, rfl, rfl, rfl, rfl, rfl, rfl, rfl, rfl, rfl, rfl, rfl, rfl, rfl, rfl, _, rfl⟩
          · subst f0
            have hTf : T = false := by cases T
                                       · rfl
                                       · exact absurd hTF (by decide)
            subst hTf
            go_quiet ((go_at_call 70; first | with_reducible exact quiet_left (XT2.out _) | with_reducible exact quiet_add_left (XT2.out _)))
            go_wp2_with fail
            go_meet
            exact ⟨rfl, rfl, rfl, rfl, rfl, rfl, rfl, rfl, rfl, rfl, rfl, rfl, rfl, rfl, rfl, rfl, rfl, rfl, rfl, rfl, rfl, rfl, rfl, rfl, rfl, rfl, rfl, rfl, rfl, rfl, rfl, rfl, rfl, rfl, rfl, rfl, rfl, rfl, rfl, rfl, rfl, rfl, rfl, rfl, rfl, rfl, rfl, rfl, rfl, rfl, rfl, rfl, rfl, rfl, rfl, rfl, _, rfl⟩
        case rest =>
          obtain ⟨rfl, rfl, rfl, rfl, rfl, rfl, rfl, rfl, rfl, rfl, rfl, rfl, rfl, rfl, rfl, rfl, rfl, rfl, rfl, rfl, rfl, rfl, rfl, rfl, rfl, rfl, rfl, rfl, rfl, rfl, rfl, rfl, rfl, rfl, rfl, rfl, rfl, rfl, rfl, rfl, rfl, rfl, rfl, rfl, rfl, rfl, rfl, rfl, rfl, rfl, rfl, rfl, rfl, rfl, rfl, rfl, k0, hk0⟩ := hcut
          have HB2 : Hid (Below w.heap.size w wc) := hide (by rw [hk0]; exact below_drewP HB1.out k0)
          have HK2 : Hid (Blk wc w.heap.size 26 #[.int .i64 op, .string ⟨p.toArray⟩, .string ⟨p2.toArray⟩, .int .i64 h, .int .i64 n, .int .i64 fl, .slice D dn dc, .slice A an ac, .slice E en ec, .slice F fn fc]) := hide (by rw [hk0]; exact HK1.out.drewN k0)
          have HRA2 : Hid (Reads wc wc.heap.size 1 A an (svs args)) := hide (by rw [hk0]; exact HRA1.out.drewN k0)
          have HRE2 : Hid (Reads wc wc.heap.size 1 E en (svs env)) := hide (by rw [hk0]; exact HRE1.out.drewN k0)
          have HRF2 : Hid (Reads wc wc.heap.size 1 F fn (ivs fds)) := hide (by rw [hk0]; exact HRF1.out.drewN k0)
          have HTF := hide hTF
          clear hk0 HB1 HK1 HRA1 HRE1 HRF1 XT2 hT hTF hfn x0 x1 x2 x3 x4 x5 x6 x7 x8 x9 hl
          have hl := HK2.out.lt
          obtain ⟨x0, x1, x2, x3, x4, x5, x6, x7, x8, x9⟩ := blk10 HK2.out
          go_wp2_with fail
          go_loop [4] (fun s4 => ∃ i : Nat, i ≤ fn ∧ s4 = .int .i64 (i : Int) ∧ Hid ((fds.take i).all wideP = true)) (fun i => fn - (intOf i).toNat)
          case atStart => exact ⟨0, Nat.zero_le _, rfl, hide rfl⟩
          case round =>
            obtain ⟨i, hi', rfl, HN⟩ := hrel
            by_cases hlt : i < fn
            · have hlt1 : (i : Int) < (fn : Int) := by omega
              have hi0 : (0 : Int) ≤ (i : Int) := by omega
              have v1 : IntKind.i64.wrap ((i : Int) + 1) = (i : Int) + 1 := by simp [IntKind.wrap, IntKind.bits, IntKind.signed]; omega
              have hil : i < fds.length := by rw [← HFL.out]; exact hlt
              obtain ⟨g, o, rfl, hg, hc1⟩ := cells_of HRF2.out (by omega) (by rw [ivs, List.length_map]; omega)
              have hcell := hc1 i _ (ivs_get fds i hil)
              have HT := hide (all_take fds i fds[i] (List.getElem?_eq_getElem hil) HN.out)
              generalize fds[i] = x at *
              have XW := hide (rwide_any x wc)
              clear hc1
              cases hw : wideP x with
              | false =>
                rw [hw] at HT XW
                clear hw
                go_wp2_with fail
                refine XW.out.mono ?_
                rintro e4 w4 ⟨rfl, rfl⟩
                go_wp2_with fail
                go_ret
                exact ⟨by rw [HV.out, HTF.out, all_false fds (i + 1) HT.out]; rfl, HB2.out⟩
              | true =>
                rw [hw] at HT XW
                clear hw
                go_wp2_with fail
                refine XW.out.mono ?_
                rintro e4 w4 ⟨rfl, rfl⟩
                clear XW hcell
                go_wp2_with fail
                go_round
                case rel => exact ⟨i + 1, by omega, by go_num, HT⟩
                case measure => simp [intOf]; omega
            · obtain rfl : i = fn := by omega
              have hlt1 : ¬ (i : Int) < (i : Int) := by omega
              have HF : Hid (fds.all wideP = true) := hide (by
                have h := HN.out
                rwa [HFL.out, List.take_length] at h)
              have XH := hide (rwide_any h wc)
              have XN := hide (rwide_any n wc)
              have XL := hide (rwide_any fl wc)
              have XA := hide (rtexts_any args 16 A an ac wc HRA2.out (by omega))
              have XE := hide (rtexts_any env 32 E en ec wc HRE2.out (by omega))
              clear HN hi' hlt
              by_cases z1 : (p.length : Int) ≤ 256
              · have z1n : decide (p.length ≤ 256) = true := by simp; omega
                by_cases z2 : (p2.length : Int) ≤ 256
                · have z2n : decide (p2.length ≤ 256) = true := by simp; omega
                  cases w1 : wideP h with
                  | false =>
                    rw [w1] at XH
                    go_wp2_with fail
                    refine XH.out.mono ?_
                    rintro e9 w9 ⟨rfl, rfl⟩
                    go_wp2_with fail
                    go_ret
                    exact ⟨by rw [HV.out, HTF.out, HF.out, z1n, z2n, w1]; rfl, HB2.out⟩
                  | true =>
                    rw [w1] at XH
                    cases w2 : wideP n with
                    | false =>
                      rw [w2] at XN
                      go_wp2_with fail
                      refine XH.out.mono ?_
                      rintro e9 w9 ⟨rfl, rfl⟩
                      go_wp2_with fail
                      refine XN.out.mono ?_
                      rintro e9 w9 ⟨rfl, rfl⟩
                      go_wp2_with fail
                      go_ret
                      exact ⟨by rw [HV.out, HTF.out, HF.out, z1n, z2n, w1, w2]; rfl, HB2.out⟩
                    | true =>
                      rw [w2] at XN
                      cases w3 : wideP fl with
                      | false =>
                        rw [w3] at XL
                        go_wp2_with fail
                        refine XH.out.mono ?_
                        rintro e9 w9 ⟨rfl, rfl⟩
                        go_wp2_with fail
                        refine XN.out.mono ?_
                        rintro e9 w9 ⟨rfl, rfl⟩
                        go_wp2_with fail
                        refine XL.out.mono ?_
                        rintro e9 w9 ⟨rfl, rfl⟩
                        go_wp2_with fail
                        go_ret
                        exact ⟨by rw [HV.out, HTF.out, HF.out, z1n, z2n, w1, w2, w3]; rfl, HB2.out⟩
                      | true =>
                        rw [w3] at XL
                        by_cases z3 : (dn : Int) ≤ 2048
                        · have z3n : decide (dn ≤ 2048) = true := by simp; omega
                          cases w4 : txsP 256 args 16 with
                          | false =>
                            rw [w4] at XA
                            go_wp2_with fail
                            refine XH.out.mono ?_
                            rintro e9 w9 ⟨rfl, rfl⟩
                            go_wp2_with fail
                            refine XN.out.mono ?_
                            rintro e9 w9 ⟨rfl, rfl⟩
                            go_wp2_with fail
                            refine XL.out.mono ?_
                            rintro e9 w9 ⟨rfl, rfl⟩
                            go_wp2_with fail
                            refine XA.out.mono ?_
                            rintro e9 w9 ⟨rfl, rfl⟩
                            go_wp2_with fail
                            go_ret
                            exact ⟨by rw [HV.out, HTF.out, HF.out, z1n, z2n, w1, w2, w3, z3n, w4]; rfl, HB2.out⟩
                          | true =>
                            rw [w4] at XA
                            cases w5 : txsP 256 env 32 with
                            | false =>
                              rw [w5] at XE
                              go_wp2_with fail
                              refine XH.out.mono ?_
                              rintro e9 w9 ⟨rfl, rfl⟩
                              go_wp2_with fail
                              refine XN.out.mono ?_
                              rintro e9 w9 ⟨rfl, rfl⟩
                              go_wp2_with fail
                              refine XL.out.mono ?_
                              rintro e9 w9 ⟨rfl, rfl⟩
                              go_wp2_with fail
                              refine XA.out.mono ?_
                              rintro e9 w9 ⟨rfl, rfl⟩
                              go_wp2_with fail
                              refine XE.out.mono ?_
                              rintro e9 w9 ⟨rfl, rfl⟩
                              go_wp2_with fail
                              go_ret
                              exact ⟨by rw [HV.out, HTF.out, HF.out, z1n, z2n, w1, w2, w3, z3n, w4, w5]; rfl, HB2.out⟩
                            | true =>
                              rw [w5] at XE
                              go_wp2_with fail
                              refine XH.out.mono ?_
                              rintro e9 w9 ⟨rfl, rfl⟩
                              go_wp2_with fail
                              refine XN.out.mono ?_
                              rintro e9 w9 ⟨rfl, rfl⟩
                              go_wp2_with fail
                              refine XL.out.mono ?_
                              rintro e9 w9 ⟨rfl, rfl⟩
                              go_wp2_with fail
                              refine XA.out.mono ?_
                              rintro e9 w9 ⟨rfl, rfl⟩
                              go_wp2_with fail
                              refine XE.out.mono ?_
                              rintro e9 w9 ⟨rfl, rfl⟩
                              go_wp2_with fail
                              go_ret
                              exact ⟨by rw [HV.out, HTF.out, HF.out, z1n, z2n, w1, w2, w3, z3n, w4, w5]; rfl, HB2.out⟩
                        · have z3n : decide (dn ≤ 2048) = false := by simp; omega
                          go_wp2_with fail
                          refine XH.out.mono ?_
                          rintro e9 w9 ⟨rfl, rfl⟩
                          go_wp2_with fail
                          refine XN.out.mono ?_
                          rintro e9 w9 ⟨rfl, rfl⟩
                          go_wp2_with fail
                          refine XL.out.mono ?_
                          rintro e9 w9 ⟨rfl, rfl⟩
                          go_wp2_with fail
                          go_ret
                          exact ⟨by rw [HV.out, HTF.out, HF.out, z1n, z2n, w1, w2, w3, z3n]; rfl, HB2.out⟩
                · have z2n : decide (p2.length ≤ 256) = false := by simp; omega
                  go_wp2_with fail
                  go_ret
                  exact ⟨by rw [HV.out, HTF.out, HF.out, z1n, z2n]; rfl, HB2.out⟩
              · have z1n : decide (p.length ≤ 256) = false := by simp; omega
                go_wp2_with fail
                go_ret
                exact ⟨by rw [HV.out, HTF.out, HF.out, z1n]; rfl, HB2.out⟩
end Go.Proofs.Ytedacfjkbfgikaa
namespace Go.Proofs.Ytedacfjkbfgikaa
open Go.RowKit
set_option linter.unusedVariables false
theorem req_in {op : Int} (h1 : 1 ≤ op) (h2 : op ≤ 16) : (op, (reqU op).1) ∈ reqL ∧ (reqU op).2 = true := by
  rcases ops16 h1 h2 with rfl | rfl | rfl | rfl | rfl | rfl | rfl | rfl | rfl | rfl | rfl | rfl | rfl | rfl | rfl | rfl <;> exact ⟨by decide, rfl⟩
def okE (e : Int × Int) (b1 b2 b3 b4 b5 b6 b7 b8 b9 : Bool) : Bool := (bits .andNot .i64 (usedB b1 b2 b3 b4 b5 b6 b7 b8 b9) e.2 == 0) == !((!hasC 80 (fieldsP e.1) && b2) || (!hasC 81 (fieldsP e.1) && b3) || (!hasC 72 (fieldsP e.1) && b1) || (!hasC 78 (fieldsP e.1) && b8) || (!hasC 70 (fieldsP e.1) && b7) || (!hasC 68 (fieldsP e.1) && b9) || (!hasC 65 (fieldsP e.1) && b4) || (!hasC 69 (fieldsP e.1) && b5) || (!hasC 84 (fieldsP e.1) && b6))
theorem okE_all : (reqL.all fun e => allB fun b1 => allB fun b2 => allB fun b3 => allB fun b4 => allB fun b5 => allB fun b6 => allB fun b7 => allB fun b8 => allB fun b9 => okE e b1 b2 b3 b4 b5 b6 b7 b8 b9) = true := by kernel_rfl
theorem seven_T : (reqL.all fun e => hasC 84 (fieldsP e.1) == (e.1 == 7)) = true := by kernel_rfl
theorem dec_flip {p q : Prop} [Decidable p] [Decidable q] (h : p ↔ ¬ q) : decide p = !decide q := by
  by_cases hq : q
  · rw [decide_eq_false (fun hp => h.1 hp hq), decide_eq_true hq]; rfl
  · rw [decide_eq_true (h.2 hq), decide_eq_false hq]; rfl
theorem any_split (p p2 : LB) (a e : List LB) : anyL 256 ([p, p2] ++ a ++ e) = (decide ((256 : Int) < p.length) || decide ((256 : Int) < p2.length) || anyL 256 a || anyL 256 e) := by
  unfold anyL
  simp only [List.any_append, List.any_cons, List.any_nil, Bool.or_false, Bool.or_assoc]
theorem ok_eq (r : RQ) (h1 : 1 ≤ r.op) (h2 : r.op ≤ 16) : r.ok = ((!badU (fieldsP r.op) r.h r.n r.fl r.p r.p2 r.d.length r.args.length r.env.length && !badT (hasC 84 (fieldsP r.op)) r.fds.length) && r.fds.all wideP && (decide (r.p.length ≤ 256) && decide (r.p2.length ≤ 256) && wideP r.h && wideP r.n && wideP r.fl && decide (r.d.length ≤ 2048) && txsP 256 r.args 16 && txsP 256 r.env 32)) := by
  obtain ⟨hm, hk⟩ := req_in h1 h2
  have h0 := List.all_eq_true.1 okE_all _ hm
  have h3 := allB_at (allB_at (allB_at (allB_at (allB_at (allB_at (allB_at (allB_at (allB_at h0 (r.h != 0)) (!r.p.isEmpty)) (!r.p2.isEmpty)) (decide (0 < r.args.length))) (decide (0 < r.env.length))) (decide (0 < r.fds.length))) (r.fl != 0)) (r.n != 0)) (decide (0 < r.d.length))
  have h4 := List.all_eq_true.1 seven_T _ hm
  dsimp only at h4
  rw [beq_iff_eq] at h4
  unfold okE at h3
  rw [beq_iff_eq, ← usedB_eq] at h3
  dsimp only at h3
  unfold RQ.ok
  rw [hk, h3, any_split]
  have eB : badU (fieldsP r.op) r.h r.n r.fl r.p r.p2 r.d.length r.args.length r.env.length = ((!hasC 80 (fieldsP r.op) && !r.p.isEmpty) || (!hasC 81 (fieldsP r.op) && !r.p2.isEmpty) || (!hasC 72 (fieldsP r.op) && (r.h != 0)) || (!hasC 78 (fieldsP r.op) && (r.n != 0)) || (!hasC 70 (fieldsP r.op) && (r.fl != 0)) || (!hasC 68 (fieldsP r.op) && decide (0 < r.d.length)) || (!hasC 65 (fieldsP r.op) && decide (0 < r.args.length)) || (!hasC 69 (fieldsP r.op) && decide (0 < r.env.length))) := rfl
  rw [← eB, ← h4]
  unfold txsP
  have d1 : decide (r.p.length ≤ 256) = !decide ((256 : Int) < r.p.length) := dec_flip (by omega)
  have d2 : decide (r.p2.length ≤ 256) = !decide ((256 : Int) < r.p2.length) := dec_flip (by omega)
  have d3 : decide (r.d.length ≤ 2048) = !decide (2048 < r.d.length) := dec_flip (by omega)
  have d4 : decide ((r.args.length : Int) ≤ 16) = !decide (16 < r.args.length) := dec_flip (by omega)
  have d5 : decide ((r.env.length : Int) ≤ 32) = !decide (32 < r.env.length) := dec_flip (by omega)
  rw [d1, d2, d3, d4, d5]
  have eT : ((!(!hasC 84 (fieldsP r.op) && decide (0 < r.fds.length))) && !(hasC 84 (fieldsP r.op) && !(r.fds.length == 3))) = !badT (hasC 84 (fieldsP r.op)) r.fds.length := by
    unfold badT
    cases hasC 84 (fieldsP r.op) with
    | true =>
      by_cases h : r.fds.length = 3
      · rw [h]; rfl
      · have e3 : (r.fds.length == 3) = false := by simpa using h
        rw [e3]; rfl
    | false =>
      by_cases h : r.fds.length = 0
      · rw [h]; rfl
      · have e0 : decide (0 < r.fds.length) = true := by simp; omega
        have e0b : (r.fds.length != 0) = true := by simpa using h
        by_cases h3 : r.fds.length = 3
        · rw [h3]; rfl
        · have e3 : (r.fds.length == 3) = false := by simpa using h3
          have e3b : (r.fds.length != 3) = true := by simpa using h3
          rw [e0, e3, e0b, e3b]; rfl
  rw [← eT]
  generalize badU (fieldsP r.op) r.h r.n r.fl r.p r.p2 r.d.length r.args.length r.env.length = U
  generalize hasC 84 (fieldsP r.op) = T
  generalize decide (0 < r.fds.length) = F0
  generalize (r.fds.length == 3) = F3
  generalize r.fds.all wideP = W
  generalize wideP r.h = w1
  generalize wideP r.n = w2
  generalize wideP r.fl = w3
  generalize decide ((256 : Int) < r.p.length) = p1
  generalize decide ((256 : Int) < r.p2.length) = p2
  generalize decide (2048 < r.d.length) = p3
  generalize decide (16 < r.args.length) = p4
  generalize decide (32 < r.env.length) = p5
  generalize anyL 256 r.args = a1
  generalize anyL 256 r.env = a2
  rw [Bool.eq_iff_iff]
  simp only [Bool.and_eq_true, Bool.not_eq_true', Bool.or_eq_false_iff, Bool.and_eq_false_imp, true_and]
  constructor
  · rintro ⟨⟨⟨⟨⟨⟨k1, k2⟩, ⟨k3, k4⟩, k5⟩, k6⟩, k7⟩, ⟨k8, k9⟩, k10⟩, ⟨⟨k11, k12⟩, k13⟩, k14⟩
    exact ⟨⟨⟨k1, k2, k7⟩, k6⟩, ⟨⟨⟨⟨⟨⟨⟨k11, k12⟩, k3⟩, k4⟩, k5⟩, k8⟩, k13, k9⟩, k14, k10⟩⟩
  · rintro ⟨⟨⟨k1, k2, k7⟩, k6⟩, ⟨⟨⟨⟨⟨⟨⟨k11, k12⟩, k3⟩, k4⟩, k5⟩, k8⟩, k13, k9⟩, k14, k10⟩⟩
    exact ⟨⟨⟨⟨⟨⟨k1, k2⟩, ⟨k3, k4⟩, k5⟩, k6⟩, k7⟩, ⟨k8, k9⟩, k10⟩, ⟨⟨k11, k12⟩, k13⟩, k14⟩
set_option maxRecDepth 100000 in
set_option maxHeartbeats 4000000 in
theorem rcheck_any (r : RQ) (D A E F : Option Addr) (dn dc an ac en ec fn fc : Nat) (w : World) (h : RdQ w r D A E F dn dc an ac en ec fn fc) (hn : an ≤ 1000 ∧ en ≤ 1000 ∧ fn ≤ 100000) :
    Calls Try.prog 16 #[r.v D A E F dn dc an ac en ec fn fc] w fun e w' => e = .returned (.bool r.ok) ∧ Below w.heap.size w w' := by
  by_cases hop : 1 ≤ r.op ∧ r.op ≤ 16
  · have hd : r.d.length = dn := by have := h.d.1; rw [bv_length] at this; omega
    have hv : r.ok = ((!badU (fieldsP r.op) r.h r.n r.fl r.p r.p2 dn an en && !badT (hasC 84 (fieldsP r.op)) fn) && r.fds.all wideP && (decide (r.p.length ≤ 256) && decide (r.p2.length ≤ 256) && wideP r.h && wideP r.n && wideP r.fl && decide (dn ≤ 2048) && txsP 256 r.args 16 && txsP 256 r.env 32)) := by
      rw [ok_eq r hop.1 hop.2, hd, ← rd_len h.a, ← rd_len h.e, ← ri_len h.f]
    rcases ops16 hop.1 hop.2 with hq | hq | hq | hq | hq | hq | hq | hq | hq | hq | hq | hq | hq | hq | hq | hq
    · have hlf : fieldsP r.op = [80, 70, 78] := by rw [hq]; rfl
      rw [hlf] at hv
      exact rchkx1 r.op r.h r.n r.fl r.p r.p2 r.fds r.args r.env D A E F dn dc an ac en ec fn fc w hop.1 hop.2 hlf r.ok h.a h.e h.f hn hv
    · have hlf : fieldsP r.op = [72] := by rw [hq]; rfl
      rw [hlf] at hv
      exact rchkx2 r.op r.h r.n r.fl r.p r.p2 r.fds r.args r.env D A E F dn dc an ac en ec fn fc w hop.1 hop.2 hlf r.ok h.a h.e h.f hn hv
    · have hlf : fieldsP r.op = [72] := by rw [hq]; rfl
      rw [hlf] at hv
      exact rchkx2 r.op r.h r.n r.fl r.p r.p2 r.fds r.args r.env D A E F dn dc an ac en ec fn fc w hop.1 hop.2 hlf r.ok h.a h.e h.f hn hv
    · have hlf : fieldsP r.op = [] := by rw [hq]; rfl
      rw [hlf] at hv
      exact rchkx4 r.op r.h r.n r.fl r.p r.p2 r.fds r.args r.env D A E F dn dc an ac en ec fn fc w hop.1 hop.2 hlf r.ok h.a h.e h.f hn hv
    · have hlf : fieldsP r.op = [72, 78] := by rw [hq]; rfl
      rw [hlf] at hv
      exact rchkx5 r.op r.h r.n r.fl r.p r.p2 r.fds r.args r.env D A E F dn dc an ac en ec fn fc w hop.1 hop.2 hlf r.ok h.a h.e h.f hn hv
    · have hlf : fieldsP r.op = [72, 68] := by rw [hq]; rfl
      rw [hlf] at hv
      exact rchkx6 r.op r.h r.n r.fl r.p r.p2 r.fds r.args r.env D A E F dn dc an ac en ec fn fc w hop.1 hop.2 hlf r.ok h.a h.e h.f hn hv
    · have hlf : fieldsP r.op = [80, 65, 69, 84] := by rw [hq]; rfl
      rw [hlf] at hv
      exact rchkx7 r.op r.h r.n r.fl r.p r.p2 r.fds r.args r.env D A E F dn dc an ac en ec fn fc w hop.1 hop.2 hlf r.ok h.a h.e h.f hn hv
    · have hlf : fieldsP r.op = [78] := by rw [hq]; rfl
      rw [hlf] at hv
      exact rchkx8 r.op r.h r.n r.fl r.p r.p2 r.fds r.args r.env D A E F dn dc an ac en ec fn fc w hop.1 hop.2 hlf r.ok h.a h.e h.f hn hv
    · have hlf : fieldsP r.op = [80] := by rw [hq]; rfl
      rw [hlf] at hv
      exact rchkx9 r.op r.h r.n r.fl r.p r.p2 r.fds r.args r.env D A E F dn dc an ac en ec fn fc w hop.1 hop.2 hlf r.ok h.a h.e h.f hn hv
    · have hlf : fieldsP r.op = [80, 70] := by rw [hq]; rfl
      rw [hlf] at hv
      exact rchkx10 r.op r.h r.n r.fl r.p r.p2 r.fds r.args r.env D A E F dn dc an ac en ec fn fc w hop.1 hop.2 hlf r.ok h.a h.e h.f hn hv
    · have hlf : fieldsP r.op = [80] := by rw [hq]; rfl
      rw [hlf] at hv
      exact rchkx9 r.op r.h r.n r.fl r.p r.p2 r.fds r.args r.env D A E F dn dc an ac en ec fn fc w hop.1 hop.2 hlf r.ok h.a h.e h.f hn hv
    · have hlf : fieldsP r.op = [80] := by rw [hq]; rfl
      rw [hlf] at hv
      exact rchkx9 r.op r.h r.n r.fl r.p r.p2 r.fds r.args r.env D A E F dn dc an ac en ec fn fc w hop.1 hop.2 hlf r.ok h.a h.e h.f hn hv
    · have hlf : fieldsP r.op = [80, 78] := by rw [hq]; rfl
      rw [hlf] at hv
      exact rchkx13 r.op r.h r.n r.fl r.p r.p2 r.fds r.args r.env D A E F dn dc an ac en ec fn fc w hop.1 hop.2 hlf r.ok h.a h.e h.f hn hv
    · have hlf : fieldsP r.op = [80, 81] := by rw [hq]; rfl
      rw [hlf] at hv
      exact rchkx14 r.op r.h r.n r.fl r.p r.p2 r.fds r.args r.env D A E F dn dc an ac en ec fn fc w hop.1 hop.2 hlf r.ok h.a h.e h.f hn hv
    · have hlf : fieldsP r.op = [78] := by rw [hq]; rfl
      rw [hlf] at hv
      exact rchkx8 r.op r.h r.n r.fl r.p r.p2 r.fds r.args r.env D A E F dn dc an ac en ec fn fc w hop.1 hop.2 hlf r.ok h.a h.e h.f hn hv
    · have hlf : fieldsP r.op = [78] := by rw [hq]; rfl
      rw [hlf] at hv
      exact rchkx8 r.op r.h r.n r.fl r.p r.p2 r.fds r.args r.env D A E F dn dc an ac en ec fn fc w hop.1 hop.2 hlf r.ok h.a h.e h.f hn hv
  · have hno : r.ok = false := by
      cases hk : r.ok with
      | false => rfl
      | true => exact absurd (op_range (ok_parts hk).1) hop
    have hb := (Below.refl w.heap.size w).alloc (Nat.le_refl _) (.cells (qcs r D A E F dn dc an ac en ec fn fc) 26)
    have hk := Blk.new w 26 (qcs r D A E F dn dc an ac en ec fn fc)
    unfold qcs at hb hk
    rw [hno]
    unfold RQ.v
    have HB := hide hb
    have hl := hk.lt
    obtain ⟨x0, x1, x2, x3, x4, x5, x6, x7, x8, x9⟩ := blk10 hk
    clear hb hk h
    by_cases h1 : r.op < 1
    · go_enter Try.func16, Try.ntmps16
      go_wp2_with fail
      go_ret
      exact ⟨rfl, HB.out⟩
    · have h2 : 16 < r.op := by omega
      go_enter Try.func16, Try.ntmps16
      go_wp2_with fail
      go_ret
      exact ⟨rfl, HB.out⟩
end Go.Proofs.Ytedacfjkbfgikaa
namespace Go.Proofs.Ytedacfjkbfgikaa
open Go.RowKit
set_option linter.unusedVariables false
theorem fld_eq (r : RQ) (h1 : 1 ≤ r.op) (h2 : r.op ≤ 16) : catP ((fieldsP r.op).map (fieldP r)) = catP (encS (reqU r.op).1 r) := by
  obtain ⟨op, p, p2, h, n, fl, d, args, env, fds⟩ := r
  dsimp only at h1 h2 ⊢
  rcases ops16 h1 h2 with rfl | rfl | rfl | rfl | rfl | rfl | rfl | rfl | rfl | rfl | rfl | rfl | rfl | rfl | rfl | rfl
  · have e1 : (fieldsP 1).map (fieldP ⟨1, p, p2, h, n, fl, d, args, env, fds⟩) = [txtP p, intP fl, intP n] := by kernel_rfl
    have e2 : encS (reqU 1).1 ⟨1, p, p2, h, n, fl, d, args, env, fds⟩ = [[], txtP p, [], [], [], [], intP fl, intP n, []] := by kernel_rfl
    rw [e1, e2]
    simp [catP]
  · have e1 : (fieldsP 2).map (fieldP ⟨2, p, p2, h, n, fl, d, args, env, fds⟩) = [intP h] := by kernel_rfl
    have e2 : encS (reqU 2).1 ⟨2, p, p2, h, n, fl, d, args, env, fds⟩ = [intP h, [], [], [], [], [], [], [], []] := by kernel_rfl
    rw [e1, e2]
    simp [catP]
  · have e1 : (fieldsP 3).map (fieldP ⟨3, p, p2, h, n, fl, d, args, env, fds⟩) = [intP h] := by kernel_rfl
    have e2 : encS (reqU 3).1 ⟨3, p, p2, h, n, fl, d, args, env, fds⟩ = [intP h, [], [], [], [], [], [], [], []] := by kernel_rfl
    rw [e1, e2]
    simp [catP]
  · have e1 : (fieldsP 4).map (fieldP ⟨4, p, p2, h, n, fl, d, args, env, fds⟩) = [] := by kernel_rfl
    have e2 : encS (reqU 4).1 ⟨4, p, p2, h, n, fl, d, args, env, fds⟩ = [[], [], [], [], [], [], [], [], []] := by kernel_rfl
    rw [e1, e2]
    simp [catP]
  · have e1 : (fieldsP 5).map (fieldP ⟨5, p, p2, h, n, fl, d, args, env, fds⟩) = [intP h, intP n] := by kernel_rfl
    have e2 : encS (reqU 5).1 ⟨5, p, p2, h, n, fl, d, args, env, fds⟩ = [intP h, [], [], [], [], [], [], intP n, []] := by kernel_rfl
    rw [e1, e2]
    simp [catP]
  · have e1 : (fieldsP 6).map (fieldP ⟨6, p, p2, h, n, fl, d, args, env, fds⟩) = [intP h, txtP d] := by kernel_rfl
    have e2 : encS (reqU 6).1 ⟨6, p, p2, h, n, fl, d, args, env, fds⟩ = [intP h, [], [], [], [], [], [], [], txtP d] := by kernel_rfl
    rw [e1, e2]
    simp [catP]
  · have e1 : (fieldsP 7).map (fieldP ⟨7, p, p2, h, n, fl, d, args, env, fds⟩) = [txtP p, lstP args, lstP env, numsP fds] := by kernel_rfl
    have e2 : encS (reqU 7).1 ⟨7, p, p2, h, n, fl, d, args, env, fds⟩ = [[], txtP p, [], lstP args, lstP env, numsP fds, [], [], []] := by kernel_rfl
    rw [e1, e2]
    simp [catP]
  · have e1 : (fieldsP 8).map (fieldP ⟨8, p, p2, h, n, fl, d, args, env, fds⟩) = [intP n] := by kernel_rfl
    have e2 : encS (reqU 8).1 ⟨8, p, p2, h, n, fl, d, args, env, fds⟩ = [[], [], [], [], [], [], [], intP n, []] := by kernel_rfl
    rw [e1, e2]
    simp [catP]
  · have e1 : (fieldsP 9).map (fieldP ⟨9, p, p2, h, n, fl, d, args, env, fds⟩) = [txtP p] := by kernel_rfl
    have e2 : encS (reqU 9).1 ⟨9, p, p2, h, n, fl, d, args, env, fds⟩ = [[], txtP p, [], [], [], [], [], [], []] := by kernel_rfl
    rw [e1, e2]
    simp [catP]
  · have e1 : (fieldsP 10).map (fieldP ⟨10, p, p2, h, n, fl, d, args, env, fds⟩) = [txtP p, intP fl] := by kernel_rfl
    have e2 : encS (reqU 10).1 ⟨10, p, p2, h, n, fl, d, args, env, fds⟩ = [[], txtP p, [], [], [], [], intP fl, [], []] := by kernel_rfl
    rw [e1, e2]
    simp [catP]
  · have e1 : (fieldsP 11).map (fieldP ⟨11, p, p2, h, n, fl, d, args, env, fds⟩) = [txtP p] := by kernel_rfl
    have e2 : encS (reqU 11).1 ⟨11, p, p2, h, n, fl, d, args, env, fds⟩ = [[], txtP p, [], [], [], [], [], [], []] := by kernel_rfl
    rw [e1, e2]
    simp [catP]
  · have e1 : (fieldsP 12).map (fieldP ⟨12, p, p2, h, n, fl, d, args, env, fds⟩) = [txtP p] := by kernel_rfl
    have e2 : encS (reqU 12).1 ⟨12, p, p2, h, n, fl, d, args, env, fds⟩ = [[], txtP p, [], [], [], [], [], [], []] := by kernel_rfl
    rw [e1, e2]
    simp [catP]
  · have e1 : (fieldsP 13).map (fieldP ⟨13, p, p2, h, n, fl, d, args, env, fds⟩) = [txtP p, intP n] := by kernel_rfl
    have e2 : encS (reqU 13).1 ⟨13, p, p2, h, n, fl, d, args, env, fds⟩ = [[], txtP p, [], [], [], [], [], intP n, []] := by kernel_rfl
    rw [e1, e2]
    simp [catP]
  · have e1 : (fieldsP 14).map (fieldP ⟨14, p, p2, h, n, fl, d, args, env, fds⟩) = [txtP p, txtP p2] := by kernel_rfl
    have e2 : encS (reqU 14).1 ⟨14, p, p2, h, n, fl, d, args, env, fds⟩ = [[], txtP p, txtP p2, [], [], [], [], [], []] := by kernel_rfl
    rw [e1, e2]
    simp [catP]
  · have e1 : (fieldsP 15).map (fieldP ⟨15, p, p2, h, n, fl, d, args, env, fds⟩) = [intP n] := by kernel_rfl
    have e2 : encS (reqU 15).1 ⟨15, p, p2, h, n, fl, d, args, env, fds⟩ = [[], [], [], [], [], [], [], intP n, []] := by kernel_rfl
    rw [e1, e2]
    simp [catP]
  · have e1 : (fieldsP 16).map (fieldP ⟨16, p, p2, h, n, fl, d, args, env, fds⟩) = [intP n] := by kernel_rfl
    have e2 : encS (reqU 16).1 ⟨16, p, p2, h, n, fl, d, args, env, fds⟩ = [[], [], [], [], [], [], [], intP n, []] := by kernel_rfl
    rw [e1, e2]
    simp [catP]
theorem fieldP_le {r : RQ} (h : r.small) (c : UInt8) : (fieldP r c).length ≤ 9000 := by
  obtain ⟨s0, s1, s2, s3, s4, s5, s6, s7, s8, s9⟩ := id h
  have ha := h.args
  have he := h.env
  have hf := h.fds
  unfold fieldP
  repeat' split
  all_goals first | (rw [int_len]; omega) | (rw [txt_len]; omega) | (simp only [lstP, List.length_append, be_length]; omega) | (simp only [numsP, List.length_append, be_length]; omega)
theorem fieldsP_in (op : Int) : (fieldsP op).length ≤ 4 ∧ ∀ c ∈ fieldsP op, c ∈ chrs := by
  by_cases h : 1 ≤ op ∧ op ≤ 16
  · rcases ops16 h.1 h.2 with rfl | rfl | rfl | rfl | rfl | rfl | rfl | rfl | rfl | rfl | rfl | rfl | rfl | rfl | rfl | rfl <;> exact ⟨by decide, by decide⟩
  · unfold fieldsP
    rw [if_neg h]
    exact ⟨by decide, by decide⟩
theorem part_le {r : RQ} (h : r.small) (l : LB) (hl : l.length ≤ 4) (o : LB) (ho : o.length ≤ 1) (i : Nat) : (o ++ catP ((l.take i).map (fieldP r))).length ≤ 50000 := by
  have h1 := catP_len ((l.take i).map (fieldP r)) 9000 (fun x hx => by
    obtain ⟨c, _, rfl⟩ := List.mem_map.1 hx
    exact fieldP_le h c)
  have h2 : ((l.take i).map (fieldP r)).length ≤ 4 := by rw [List.length_map, List.length_take]; omega
  rw [List.length_append]
  omega
set_option maxRecDepth 100000 in
set_option maxHeartbeats 4000000 in
theorem renc_no (r : RQ) (D A E F : Option Addr) (dn dc an ac en ec fn fc : Nat) (w : World) (h : RdQ w r D A E F dn dc an ac en ec fn fc) (hn : an ≤ 1000 ∧ en ≤ 1000 ∧ fn ≤ 100000) (hno : r.ok = false) :
    Calls Try.prog 10 #[r.v D A E F dn dc an ac en ec fn fc] w fun e w' => e = .returned (.tuple #[.slice none 0 0, .int .i64 2]) ∧ Below w.heap.size w w' := by
  have hb := (Below.refl w.heap.size w).alloc (Nat.le_refl _) (.cells #[.int .i64 r.op, .string ⟨r.p.toArray⟩, .string ⟨r.p2.toArray⟩, .int .i64 r.h, .int .i64 r.n, .int .i64 r.fl, .slice D dn dc, .slice A an ac, .slice E en ec, .slice F fn fc] 26)
  have hk := Blk.new w 26 #[.int .i64 r.op, .string ⟨r.p.toArray⟩, .string ⟨r.p2.toArray⟩, .int .i64 r.h, .int .i64 r.n, .int .i64 r.fl, .slice D dn dc, .slice A an ac, .slice E en ec, .slice F fn fc]
  have XC := hide (rcheck_any r D A E F dn dc an ac en ec fn fc (w.alloc (.cells #[.int .i64 r.op, .string ⟨r.p.toArray⟩, .string ⟨r.p2.toArray⟩, .int .i64 r.h, .int .i64 r.n, .int .i64 r.fl, .slice D dn dc, .slice A an ac, .slice E en ec, .slice F fn fc] 26)) (h.below hb) hn)
  rw [hno] at XC
  unfold RQ.v at XC ⊢
  have HB := hide hb
  have hs := hb.size
  clear h hb
  obtain ⟨x0, x1, x2, x3, x4, x5, x6, x7, x8, x9⟩ := blk10 hk
  clear hk
  go_enter Try.func10, Try.ntmps10
  go_wp2_with fail
  refine XC.out.mono ?_
  rintro e w1 ⟨rfl, hb1⟩
  have HB1 := hide (below_more HB.out (Nat.le_refl _) hb1)
  clear XC hb1 HB
  go_wp2_with fail
  refine bodyPost_ret (v := .tuple #[.slice none 0 0, .int .i64 2]) (by simp only [results, Try.results10]; go_simp) rfl ⟨rfl, HB1.out⟩
set_option maxRecDepth 100000 in
set_option maxHeartbeats 8000000 in
theorem renc_yes (r : RQ) (D A E F : Option Addr) (dn dc an ac en ec fn fc : Nat) (w : World) (h : RdQ w r D A E F dn dc an ac en ec fn fc) (hok : r.ok = true) :
    Calls Try.prog 10 #[r.v D A E F dn dc an ac en ec fn fc] w fun e w' => ∃ A' n' c', e = .returned (.tuple #[.slice A' n' c', .int .i64 0]) ∧ OwB w.heap.size w' A' n' c' (encQ r) ∧ Below w.heap.size w w' := by
  obtain ⟨i0, hi, hz0, hz1, hz2⟩ := info_parts infoU8
  have hb := (Below.refl w.heap.size w).alloc (Nat.le_refl _) (.cells #[.int .i64 r.op, .string ⟨r.p.toArray⟩, .string ⟨r.p2.toArray⟩, .int .i64 r.h, .int .i64 r.n, .int .i64 r.fl, .slice D dn dc, .slice A an ac, .slice E en ec, .slice F fn fc] 26)
  have hk := Blk.new w 26 #[.int .i64 r.op, .string ⟨r.p.toArray⟩, .string ⟨r.p2.toArray⟩, .int .i64 r.h, .int .i64 r.n, .int .i64 r.fl, .slice D dn dc, .slice A an ac, .slice E en ec, .slice F fn fc]
  have hln := h.lens hok
  have XC := hide (rcheck_any r D A E F dn dc an ac en ec fn fc (w.alloc (.cells #[.int .i64 r.op, .string ⟨r.p.toArray⟩, .string ⟨r.p2.toArray⟩, .int .i64 r.h, .int .i64 r.n, .int .i64 r.fl, .slice D dn dc, .slice A an ac, .slice E en ec, .slice F fn fc] 26)) (h.below hb) (by omega))
  rw [hok] at XC
  unfold RQ.v at XC ⊢
  have HB := hide hb
  have hs := hb.size
  have HP := hide (ok_parts hok)
  have hy := op_byte HP.out.1
  obtain ⟨o1, o2⟩ := op_range HP.out.1
  have HS := hide (ok_small hok)
  have HE : Hid (encQ r = [opB r.op] ++ catP ((fieldsP r.op).map (fieldP r))) := hide (by rw [fld_eq r o1 o2]; rfl)
  have HH := hide h
  have XF := hide (fun V => fields_any r.op V)
  obtain ⟨hl4, hlc⟩ := fieldsP_in r.op
  have HPL := hide (fun i => part_le HS.out (fieldsP r.op) hl4 [opB r.op] (by simp) i)
  have HLC := hide hlc
  generalize opB r.op = ob at *
  have hkl := hk.lt
  obtain ⟨x0, x1, x2, x3, x4, x5, x6, x7, x8, x9⟩ := blk10 hk
  have HK := hide hk
  clear h hb hk hlc hln hok
  go_enter Try.func10, Try.ntmps10
  go_wp2_with fail
  refine XC.out.mono ?_
  rintro e w1 ⟨rfl, hb1⟩
  have HB1 := hide (below_more HB.out (Nat.le_refl _) hb1)
  have HK1 := hide (HK.out.below hb1 hkl)
  clear XC hb1 HB HK x0 x1 x2 x3 x4 x5 x6 x7 x8 x9 hkl hs
  have hl1 := HK1.out.lt
  have hs1 := HB1.out.size
  have HO2 := hide ((Blk.new w1 5 #[.int .u8 ((ob.toNat : Nat) : Int)]).own (base := w.heap.size) (cap := 1) hs1 (by unfold maxLen; omega) rfl)
  have HB2 := hide (HB1.out.alloc hs1 (.cells #[.int .u8 ((ob.toNat : Nat) : Int)] 5))
  have HK2 := hide (HK1.out.alloc (.cells #[.int .u8 ((ob.toNat : Nat) : Int)] 5))
  have y0 := HK1.out.cell 0
  have z0 := HK2.out.cell 0
  simp only [List.getElem?_toArray, List.getElem?_cons_zero] at y0 z0
  go_wp2_with fail
  refine (XF.out _).mono ?_
  rintro e w3 ⟨rfl, hb3⟩
  have HB3 := hide (below_more HB2.out (Nat.le_refl _) hb3)
  have HK3 := hide (HK2.out.below hb3 HK2.out.lt)
  have HO3 : Hid (OwB w.heap.size w3 (some ⟨w1.heap.size, 0, none⟩) 1 1 [ob]) := hide (own_below HO2.out hb3)
  clear hb3 HB2 HK2 HO2 y0 z0 hl1 HB1 HK1 XF
  generalize fieldsP r.op = l at *
  go_wp2_with fail
  go_loopw [4, 6] (fun s4 s6 wx => ∃ i : Nat, i ≤ l.length ∧ s6 = .int .i64 (i : Int) ∧ ∃ A2 n2 c2, s4 = .slice A2 n2 c2 ∧ Hid (OwB w.heap.size wx A2 n2 c2 ([ob] ++ catP ((l.take i).map (fieldP r)))) ∧ Hid (Below w.heap.size w wx) ∧ Hid (Blk wx w.heap.size 26 #[.int .i64 r.op, .string ⟨r.p.toArray⟩, .string ⟨r.p2.toArray⟩, .int .i64 r.h, .int .i64 r.n, .int .i64 r.fl, .slice D dn dc, .slice A an ac, .slice E en ec, .slice F fn fc])) (fun _ i _ => l.length - (intOf i).toNat)
  case atStart => exact ⟨0, Nat.zero_le _, rfl, some ⟨w1.heap.size, 0, none⟩, 1, 1, rfl, by simpa [catP] using HO3, HB3, HK3⟩
  case round =>
    obtain ⟨i, hi', rfl, A2, n2, c2, rfl, HO, HBx, HKx⟩ := hrel
    have hlx := HKx.out.lt
    by_cases hlt : i < l.length
    · have hlt1 : (i : Int) < (l.length : Int) := by omega
      have hi0 : (0 : Int) ≤ (i : Int) := by omega
      have v1 : IntKind.i64.wrap ((i : Int) + 1) = (i : Int) + 1 := by simp [IntKind.wrap, IntKind.bits, IntKind.signed]; omega
      have hx : l[i]? = some (l[i]) := List.getElem?_eq_getElem hlt
      have HM : Hid (l[i] ∈ chrs) := hide (HLC.out _ (List.getElem_mem hlt))
      obtain ⟨x, hxe⟩ : ∃ x, l[i] = x := ⟨_, rfl⟩
      rw [hxe] at hx HM
      have hix := fun W => ix_l l i x hx W
      have HC : Hid (catP ((l.take (i + 1)).map (fieldP r)) = catP ((l.take i).map (fieldP r)) ++ fieldP r x) := hide (catP_take (fieldP r) l i x hx)
      have hn2 : n2 ≤ 50000 := by have := HO.out.rd.len; have := HPL.out i; omega
      have hfl := fieldP_le HS.out x
      have XG := hide (field_any r D A E F dn dc an ac en ec fn fc x wr.drew (HH.out.below HBx.out.drew) HS.out HM.out)
      have HSx : (fun V : World => V.cell? ⟨w.heap.size, 0, none⟩ = some (.int .i64 r.op) ∧ V.cell? ⟨w.heap.size, 1, none⟩ = some (.string ⟨r.p.toArray⟩) ∧ V.cell? ⟨w.heap.size, 2, none⟩ = some (.string ⟨r.p2.toArray⟩) ∧ V.cell? ⟨w.heap.size, 3, none⟩ = some (.int .i64 r.h) ∧ V.cell? ⟨w.heap.size, 4, none⟩ = some (.int .i64 r.n) ∧ V.cell? ⟨w.heap.size, 5, none⟩ = some (.int .i64 r.fl) ∧ V.cell? ⟨w.heap.size, 6, none⟩ = some (.slice D dn dc) ∧ V.cell? ⟨w.heap.size, 7, none⟩ = some (.slice A an ac) ∧ V.cell? ⟨w.heap.size, 8, none⟩ = some (.slice E en ec) ∧ V.cell? ⟨w.heap.size, 9, none⟩ = some (.slice F fn fc)) wr.drew := blk10 HKx.out.drew
      clear hx hxe
      have hsx := HBx.out.size
      go_upto_region 8 with (fail)
      refine wp_region_M (fun V => V.cell? ⟨w.heap.size, 0, none⟩ = some (.int .i64 r.op) ∧ V.cell? ⟨w.heap.size, 1, none⟩ = some (.string ⟨r.p.toArray⟩) ∧ V.cell? ⟨w.heap.size, 2, none⟩ = some (.string ⟨r.p2.toArray⟩) ∧ V.cell? ⟨w.heap.size, 3, none⟩ = some (.int .i64 r.h) ∧ V.cell? ⟨w.heap.size, 4, none⟩ = some (.int .i64 r.n) ∧ V.cell? ⟨w.heap.size, 5, none⟩ = some (.int .i64 r.fl) ∧ V.cell? ⟨w.heap.size, 6, none⟩ = some (.slice D dn dc) ∧ V.cell? ⟨w.heap.size, 7, none⟩ = some (.slice A an ac) ∧ V.cell? ⟨w.heap.size, 8, none⟩ = some (.slice E en ec) ∧ V.cell? ⟨w.heap.size, 9, none⟩ = some (.slice F fn fc)) 7 rfl HSx (fun hHeld => ?_)
      refine wpAnyM_take (i := 0) (v := ?_) rfl rfl (by kernel_rfl) (fun _ _ _ h => h) (Or.inl ⟨by rfl, ?_⟩) (by assumption) ?_
      rotate_left
      · (intro V hV; (try dsimp only at hV); go_simp; with_reducible rfl)
      try simp only [Act.put, List.setIfInBounds_toArray, List.set_cons_zero, List.set_cons_succ]
      refine wpAnyM_take (i := 1) (v := ?_) rfl rfl (by kernel_rfl) (fun _ _ _ h => h) (Or.inl ⟨by rfl, ?_⟩) (by assumption) ?_
      rotate_left
      · (intro V hV; (try dsimp only at hV); go_simp; with_reducible rfl)
      try simp only [Act.put, List.setIfInBounds_toArray, List.set_cons_zero, List.set_cons_succ]
      refine wpAnyM_take (i := 2) (v := ?_) rfl rfl (by kernel_rfl) (fun _ _ _ h => h) (Or.inl ⟨by rfl, ?_⟩) (by assumption) ?_
      rotate_left
      · (intro V hV; (try dsimp only at hV); go_simp; with_reducible rfl)
      try simp only [Act.put, List.setIfInBounds_toArray, List.set_cons_zero, List.set_cons_succ]
      refine wpAnyM_take (i := 3) (v := ?_) rfl rfl (by kernel_rfl) (fun _ _ _ h => h) (Or.inl ⟨by rfl, ?_⟩) (by assumption) ?_
      rotate_left
      · (intro V hV; (try dsimp only at hV); go_simp; with_reducible rfl)
      try simp only [Act.put, List.setIfInBounds_toArray, List.set_cons_zero, List.set_cons_succ]
      refine wpAnyM_take (i := 4) (v := ?_) rfl rfl (by kernel_rfl) (fun _ _ _ h => h) (Or.inl ⟨by rfl, ?_⟩) (by assumption) ?_
      rotate_left
      · (intro V hV; (try dsimp only at hV); go_simp; with_reducible rfl)
      try simp only [Act.put, List.setIfInBounds_toArray, List.set_cons_zero, List.set_cons_succ]
      refine wpAnyM_step (i := 5) (by kernel_rfl) rfl rfl (fun K hK => ?_)
      go_simp
      refine XG.out.mono ?_
      rintro e w4 ⟨A4, n4, c4, rfl, ho4, hb4⟩
      have hn4 : n4 ≤ 9000 := by have := ho4.rd.len; omega
      have HO4 := hide ho4
      have HI4 : Hid (OwB w.heap.size w4 A2 n2 c2 ([ob] ++ catP ((l.take i).map (fieldP r)))) := hide (own_below (w := wr.drew) HO.out hb4)
      have HB4 : Hid (Below w.heap.size w w4) := hide (HBx.out.drew.trans (hb4.mono (by exact hsx)))
      have HK4 := hide (HKx.out.drew.below hb4 hlx)
      have hbase : w.heap.size ≤ w4.heap.size := HB4.out.size
      refine hK.out _ _ (fun _ => blk10 HK4.out) ?_
      clear hK K hHeld ho4 hb4 XG HSx
      simp only [List.setIfInBounds_toArray]
      refine wpAnyM_step (i := 6) (by kernel_rfl) rfl rfl (fun K hK => ?_)
      refine step_append_any _ rfl (.tmp 23) (.tmp 28) 22 rfl w.heap.size 5 i0 _ 1 1 Try.underlying22 hi hz0 hz1 hz2 rfl (by omega) (.slice A2 n2 c2) n2 (bv ([ob] ++ catP ((l.take i).map (fieldP r)))) rfl (by exact HI4.out) _ A4 n4 c4 (bv (fieldP r x)) rfl (by exact HO4.out.rd) (bv_one _) (by unfold maxLen; omega) (by omega) (by exact hbase) ?_
      intro v5 w5 hown5 hg5 hat5
      obtain ⟨A5, c5, rfl⟩ := own_slice hown5
      rw [← bv_append, List.append_assoc, ← HC.out] at hown5
      have HO5 : Hid (OwB w.heap.size w5 A5 (n2 + n4) c5 ([ob] ++ catP ((l.take (i + 1)).map (fieldP r)))) := hide hown5
      have HB5 : Hid (Below w.heap.size w w5) := hide (HB4.out.grown hg5 hbase (fun g hg => (World.ownsRow.lt HI4.out g hg).1))
      have HK5 := hide (HK4.out.grown hg5 (own_blk_ne HI4.out HK4.out (by decide)).symm)
      refine hK.out _ _ (fun _ => blk10 HK5.out) ?_
      clear hK K hown5 hg5 hat5 HI4 HB4 HK4 HO4
      simp only [List.setIfInBounds_toArray]
      refine wpAnyM_step (i := 7) (by kernel_rfl) rfl rfl (fun K hK => ?_)
      go_simp
      refine hK.out _ _ (fun h => absurd rfl h) ?_
      refine wpAnyM_done (by kernel_rfl) ?_ _
      clear hK K
      clear HC hix
      go_wp2_with fail
      go_roundw
      case rel => exact ⟨i + 1, by omega, by go_num, A5, n2 + n4, c5, rfl, HO5, HB5, HK5⟩
      case measure => simp [intOf]; omega
    · obtain rfl : i = l.length := by omega
      have hlt1 : ¬ (l.length : Int) < (l.length : Int) := by omega
      rw [List.take_length] at HO
      go_wp2_with fail
      refine bodyPost_ret (v := .tuple #[.slice A2 n2 c2, .int .i64 0]) (by simp only [results, Try.results10]; go_simp) rfl ⟨A2, n2, c2, rfl, by rw [HE.out]; exact HO.out, HBx.out⟩
end Go.Proofs.Ytedacfjkbfgikaa
namespace Go.Proofs.Ytedacfjkbfgikaa
open Go.RowKit
set_option linter.unusedVariables false
theorem fold_lens : ∀ (l : LB) (p : RQ × St), lensQ p.1 → lensQ (foldC rdC l p).1
  | [], p, h => h
  | c :: l, p, h => fold_lens l _ (rdC_lens c p h)
theorem PAt.more {B B' g : Nat} {st : St} {w : World} (h : PAt B g st w) (hB : B ≤ B') (hs : B' ≤ w.heap.size) : PAt B' g st w := by
  obtain ⟨A, n, c, a, bs, h1, h2, h3, h4, h5, h6, h7, h8⟩ := h
  exact ⟨A, n, c, a, bs, h1, h2.more hB, h3, h4, h5, h6, by omega, hs⟩
def RDEnd (R : Option RQ) (w : World) (e : Ending) (w' : World) : Prop := ∃ D dn dc A an ac E en ec F fn fc, e = .returned (.tuple #[(R.getD (zQ 0)).v D A E F dn dc an ac en ec fn fc, .int .i64 (if R.isSome then 0 else 5)]) ∧ RdQ w' (R.getD (zQ 0)) D A E F dn dc an ac en ec fn fc ∧ Below w.heap.size w w'
theorem rdec_none {R : Option RQ} (h : R = none) {w w' : World} (hb : Below w.heap.size w w') : RDEnd R w (.returned (.tuple #[zv, .int .i64 5])) w' := by
  subst h
  exact ⟨none, 0, 0, none, 0, 0, none, 0, 0, none, 0, 0, rfl, ⟨Reads.none_, Reads.none_, Reads.none_, Reads.none_⟩, hb⟩
theorem rd10 {w : World} {b : Nat} {D : Option Addr} {n : Nat} {xs : List Value} (h : FR (b + 1) w D n xs) (v0 v1 v2 v3 v4 v5 v6 v7 v8 v9 : Value) : Reads ((((((((((w.setCell ⟨b, 0, none⟩ v0).setCell ⟨b, 1, none⟩ v1).setCell ⟨b, 2, none⟩ v2).setCell ⟨b, 3, none⟩ v3).setCell ⟨b, 4, none⟩ v4).setCell ⟨b, 5, none⟩ v5).setCell ⟨b, 6, none⟩ v6).setCell ⟨b, 7, none⟩ v7).setCell ⟨b, 8, none⟩ v8).setCell ⟨b, 9, none⟩ v9) ((((((((((w.setCell ⟨b, 0, none⟩ v0).setCell ⟨b, 1, none⟩ v1).setCell ⟨b, 2, none⟩ v2).setCell ⟨b, 3, none⟩ v3).setCell ⟨b, 4, none⟩ v4).setCell ⟨b, 5, none⟩ v5).setCell ⟨b, 6, none⟩ v6).setCell ⟨b, 7, none⟩ v7).setCell ⟨b, 8, none⟩ v8).setCell ⟨b, 9, none⟩ v9).heap.size 1 D n xs :=
  (h.keep (w' := ((((((((((w.setCell ⟨b, 0, none⟩ v0).setCell ⟨b, 1, none⟩ v1).setCell ⟨b, 2, none⟩ v2).setCell ⟨b, 3, none⟩ v3).setCell ⟨b, 4, none⟩ v4).setCell ⟨b, 5, none⟩ v5).setCell ⟨b, 6, none⟩ v6).setCell ⟨b, 7, none⟩ v7).setCell ⟨b, 8, none⟩ v8).setCell ⟨b, 9, none⟩ v9)) (fun x hx hl => (((((((((Below.heap_setCell _ ⟨b, 9, none⟩ _ x (by show x ≠ b; omega)).trans (Below.heap_setCell _ ⟨b, 8, none⟩ _ x (by show x ≠ b; omega))).trans (Below.heap_setCell _ ⟨b, 7, none⟩ _ x (by show x ≠ b; omega))).trans (Below.heap_setCell _ ⟨b, 6, none⟩ _ x (by show x ≠ b; omega))).trans (Below.heap_setCell _ ⟨b, 5, none⟩ _ x (by show x ≠ b; omega))).trans (Below.heap_setCell _ ⟨b, 4, none⟩ _ x (by show x ≠ b; omega))).trans (Below.heap_setCell _ ⟨b, 3, none⟩ _ x (by show x ≠ b; omega))).trans (Below.heap_setCell _ ⟨b, 2, none⟩ _ x (by show x ≠ b; omega))).trans (Below.heap_setCell _ ⟨b, 1, none⟩ _ x (by show x ≠ b; omega))).trans (Below.heap_setCell _ ⟨b, 0, none⟩ _ x (by show x ≠ b; omega))) (by simp)).1
theorem fr_low {B B' : Nat} {w : World} {D : Option Addr} {n : Nat} {xs : List Value} (h : FR B w D n xs) (hb : B' ≤ B) : FR B' w D n xs := ⟨h.1, fun ad hD h0 => Nat.le_trans hb (h.2 ad hD h0)⟩
set_option maxRecDepth 100000 in
set_option maxHeartbeats 16000000 in
theorem rdec_any (bs : LB) (A : Option Addr) (n c : Nat) (w : World) (hr : Rd w A n bs) (hn : n ≤ 100000) (hc : n ≤ c) : Calls Try.prog 12 #[.slice A n c] w fun e w' => RDEnd (decP bs) w e w' := by
  have HR : Hid (decP bs = if (!(refQ bs).2.2 && ((refQ bs).1.ok && (encQ (refQ bs).1 == bs))) = true then some (refQ bs).1 else none) := hide (refD_eq bs).symm
  generalize decP bs = R at *
  have s0 : (w.alloc (.cells #[.int .i64 0, .string ⟨#[]⟩, .string ⟨#[]⟩, .int .i64 0, .int .i64 0, .int .i64 0, .slice none 0 0, .slice none 0 0, .slice none 0 0, .slice none 0 0] 26)).heap.size = w.heap.size + 1 := by simp
  have hz := Blk.new w 26 #[.int .i64 0, .string ⟨#[]⟩, .string ⟨#[]⟩, .int .i64 0, .int .i64 0, .int .i64 0, .slice none 0 0, .slice none 0 0, .slice none 0 0, .slice none 0 0]
  have hp := Blk.new (w.alloc (.cells #[.int .i64 0, .string ⟨#[]⟩, .string ⟨#[]⟩, .int .i64 0, .int .i64 0, .int .i64 0, .slice none 0 0, .slice none 0 0, .slice none 0 0, .slice none 0 0] 26)) 80 #[.slice A n c, .int .i64 0, .bool false]
  rw [s0] at hp
  have b0 := ((Below.refl w.heap.size w).alloc (Nat.le_refl _) (.cells #[.int .i64 0, .string ⟨#[]⟩, .string ⟨#[]⟩, .int .i64 0, .int .i64 0, .int .i64 0, .slice none 0 0, .slice none 0 0, .slice none 0 0, .slice none 0 0] 26)).alloc (by simp) (.cells #[.slice A n c, .int .i64 0, .bool false] 80)
  have b1 := (Below.refl (w.heap.size + 1) (w.alloc (.cells #[.int .i64 0, .string ⟨#[]⟩, .string ⟨#[]⟩, .int .i64 0, .int .i64 0, .int .i64 0, .slice none 0 0, .slice none 0 0, .slice none 0 0, .slice none 0 0] 26))).alloc (by simp) (.cells #[.slice A n c, .int .i64 0, .bool false] 80)
  have HP0 : Hid (PAt (w.heap.size + 2) (w.heap.size + 1) (bs, false) ((w.alloc (.cells #[.int .i64 0, .string ⟨#[]⟩, .string ⟨#[]⟩, .int .i64 0, .int .i64 0, .int .i64 0, .slice none 0 0, .slice none 0 0, .slice none 0 0, .slice none 0 0] 26)).alloc (.cells #[.slice A n c, .int .i64 0, .bool false] 80))) := hide
    ⟨A, n, c, 0, bs, hp, (hr.below b0).more (by omega), by simp, by omega, hc, by omega, by omega, by simp⟩
  have HRA := hide hr
  have HZ := hide (hz.alloc (.cells #[.slice A n c, .int .i64 0, .bool false] 80))
  have HB := hide b0
  have HB1 := hide b1
  clear hr hz hp b0 b1
  have XN : Hid (Calls Try.prog 58 #[.pointer (some ⟨w.heap.size + 1, 0, none⟩), .int .i64 1] ((w.alloc (.cells #[.int .i64 0, .string ⟨#[]⟩, .string ⟨#[]⟩, .int .i64 0, .int .i64 0, .int .i64 0, .slice none 0 0, .slice none 0 0, .slice none 0 0, .slice none 0 0] 26)).alloc (.cells #[.slice A n c, .int .i64 0, .bool false] 80)) fun e w' => e = .returned (.int .i64 ((numS 1 (bs, false)).1 : Int)) ∧ PAt (w.heap.size + 2) (w.heap.size + 1) (numS 1 (bs, false)).2 w' ∧ Fr (w.heap.size + 1) ((w.alloc (.cells #[.int .i64 0, .string ⟨#[]⟩, .string ⟨#[]⟩, .int .i64 0, .int .i64 0, .int .i64 0, .slice none 0 0, .slice none 0 0, .slice none 0 0, .slice none 0 0] 26)).alloc (.cells #[.slice A n c, .int .i64 0, .bool false] 80)) w') := hide (rnum_any _ _ 1 _ _ HP0.out (by omega) (by omega))
  have hop := num1_lt (bs, false)
  have HQ : Hid (refQ bs = foldC rdC (fieldsP ((numS 1 (bs, false)).1 : Int)) (zQ ((numS 1 (bs, false)).1 : Int), (numS 1 (bs, false)).2)) := hide rfl
  generalize refQ bs = Q9 at *
  generalize numS 1 (bs, false) = r0 at *
  obtain ⟨op, st0⟩ := r0
  dsimp only at XN hop HQ
  go_enter Try.func12, Try.ntmps12
  go_wp2_with fail
  refine XN.out.mono ?_
  rintro e w1 ⟨rfl, hin, hfr⟩
  have HF1 := hide hfr
  have hs1 := hfr.size
  have hs2 : w.heap.size + 2 ≤ w1.heap.size := by have := hin.lt; omega
  have b2 : Below (w.heap.size + 1) (w.alloc (.cells #[.int .i64 0, .string ⟨#[]⟩, .string ⟨#[]⟩, .int .i64 0, .int .i64 0, .int .i64 0, .slice none 0 0, .slice none 0 0, .slice none 0 0, .slice none 0 0] 26)) w1 := HB1.out.trans ⟨hfr.os, hfr.tape, hfr.output, hfr.size, fun x hx => hfr.block x (by simp; omega) (by omega)⟩
  have b3 := b2.alloc (by omega) (.cells #[.int .i64 (op : Int), .string ⟨#[]⟩, .string ⟨#[]⟩, .int .i64 0, .int .i64 0, .int .i64 0, .slice none 0 0, .slice none 0 0, .slice none 0 0, .slice none 0 0] 26)
  have s3 : (w1.alloc (.cells #[.int .i64 (op : Int), .string ⟨#[]⟩, .string ⟨#[]⟩, .int .i64 0, .int .i64 0, .int .i64 0, .slice none 0 0, .slice none 0 0, .slice none 0 0, .slice none 0 0] 26)).heap.size = w1.heap.size + 1 := by simp
  have HK1 : Hid (RK (w.alloc (.cells #[.int .i64 0, .string ⟨#[]⟩, .string ⟨#[]⟩, .int .i64 0, .int .i64 0, .int .i64 0, .slice none 0 0, .slice none 0 0, .slice none 0 0, .slice none 0 0] 26)) (w.heap.size + 1) (w1.heap.size + 1) (w.heap.size + 1) w1.heap.size (zQ (op : Int), st0) (w1.alloc (.cells #[.int .i64 (op : Int), .string ⟨#[]⟩, .string ⟨#[]⟩, .int .i64 0, .int .i64 0, .int .i64 0, .slice none 0 0, .slice none 0 0, .slice none 0 0, .slice none 0 0] 26))) := hide
    ⟨(hin.keep (fun x hx => Below.heap_alloc w1 _ x (by have := hin.lt; omega)) (by simp)).more (by omega) (by simp), ⟨none, 0, 0, none, 0, 0, none, 0, 0, none, 0, 0, ⟨Blk.new w1 26 #[.int .i64 (op : Int), .string ⟨#[]⟩, .string ⟨#[]⟩, .int .i64 0, .int .i64 0, .int .i64 0, .slice none 0 0, .slice none 0 0, .slice none 0 0, .slice none 0 0], FR.nil _ _, FR.nil _ _, FR.nil _ _, FR.nil _ _⟩⟩, b3, by omega, by omega, by omega⟩
  have y0 := (Blk.new w1 26 #[.int .i64 (op : Int), .string ⟨#[]⟩, .string ⟨#[]⟩, .int .i64 0, .int .i64 0, .int .i64 0, .slice none 0 0, .slice none 0 0, .slice none 0 0, .slice none 0 0]).cell 0
  simp only [List.getElem?_toArray, List.getElem?_cons_zero] at y0
  have XF := hide (fields_any (op : Int) (w1.alloc (.cells #[.int .i64 (op : Int), .string ⟨#[]⟩, .string ⟨#[]⟩, .int .i64 0, .int .i64 0, .int .i64 0, .slice none 0 0, .slice none 0 0, .slice none 0 0, .slice none 0 0] 26)))
  have HLC := hide (fieldsP_in (op : Int)).2
  have hl4 := (fieldsP_in (op : Int)).1
  have HLN := hide (fold_lens (fieldsP (op : Int)) (zQ (op : Int), st0) ⟨by simp [zQ], by simp [zQ], by simp [zQ]⟩)
  clear hin hfr XN HP0 b2 b3
  go_wp2_with fail
  refine XF.out.mono ?_
  rintro e w3 ⟨rfl, hb3⟩
  have HK3 : Hid (RK (w.alloc (.cells #[.int .i64 0, .string ⟨#[]⟩, .string ⟨#[]⟩, .int .i64 0, .int .i64 0, .int .i64 0, .slice none 0 0, .slice none 0 0, .slice none 0 0, .slice none 0 0] 26)) (w.heap.size + 1) (w1.heap.size + 1) (w.heap.size + 1) w1.heap.size (zQ (op : Int), st0) w3) := hide (HK1.out.fr (HK1.out.1.keep (fun x hx => hb3.block x (by rw [s3]; exact hx)) hb3.size) (Fr.of_below hb3))
  clear hb3 HK1 y0 XF s3
  rw [← HQ.out] at HLN
  generalize fieldsP (op : Int) = l at *
  generalize (zQ (op : Int), st0) = p0 at *
  clear hop
  go_wp2_with fail
  go_loopw [7] (fun s7 wx => ∃ i : Nat, i ≤ l.length ∧ s7 = .int .i64 (i : Int) ∧ Hid (RK (w.alloc (.cells #[.int .i64 0, .string ⟨#[]⟩, .string ⟨#[]⟩, .int .i64 0, .int .i64 0, .int .i64 0, .slice none 0 0, .slice none 0 0, .slice none 0 0, .slice none 0 0] 26)) (w.heap.size + 1) (w1.heap.size + 1) (w.heap.size + 1) w1.heap.size (foldC rdC (l.take i) p0) wx)) (fun i _ => l.length - (intOf i).toNat)
  case atStart => exact ⟨0, Nat.zero_le _, rfl, HK3⟩
  case round =>
    obtain ⟨i, hi', rfl, HKx⟩ := hrel
    by_cases hlt : i < l.length
    · have hlt1 : (i : Int) < (l.length : Int) := by omega
      have hi0 : (0 : Int) ≤ (i : Int) := by omega
      have v1 : IntKind.i64.wrap ((i : Int) + 1) = (i : Int) + 1 := by simp [IntKind.wrap, IntKind.bits, IntKind.signed]; omega
      have hx : l[i]? = some (l[i]) := List.getElem?_eq_getElem hlt
      have hM : l[i] ∈ chrs := HLC.out _ (List.getElem_mem hlt)
      obtain ⟨x, hxe⟩ : ∃ x, l[i] = x := ⟨_, rfl⟩
      rw [hxe] at hx hM
      have HN := hide (fold_next rdC l p0 i x hx)
      have hix := fun W => ix_l l i x hx W
      clear hx hxe
      generalize foldC rdC (l.take i) p0 = q at *
      obtain ⟨r, st⟩ := q
      simp only [chrs, List.mem_cons, List.mem_nil_iff, or_false] at hM
      rcases hM with rfl | rfl | rfl | rfl | rfl | rfl | rfl | rfl | rfl
      · have hix0 : ∀ W, (Instr.index 9 (.string ⟨l.toArray⟩) (.int .i64 (i : Int))).run Try.prog W = .ok (.int .u8 80) W := hix
        have HC : Hid (rdC 80 (r, st) = rdP (r, st)) := hide (by unfold rdC; rw [if_pos rfl])
        rw [HC.out] at HN
        have XP := hide (rtxt_any (w1.heap.size + 1) (w.heap.size + 1) st wr HKx.out.1)
        unfold rdP at HN
        dsimp only at HN
        generalize txtS st = y at *
        obtain ⟨x, st'⟩ := y
        dsimp only at XP HN
        clear hix HC
        go_wp2_with fail
        with_reducible refine XP.out.mono ?_
        rintro e w4 ⟨rfl, hin, hfr⟩
        have HK4 := hide (HKx.out.fr hin hfr)
        obtain ⟨_, ⟨D, dn, dc, A', an, ac, E, en, ec, F, fn, fc, hdk⟩, -⟩ := HK4.out
        have ck := hdk.k.cell 1
        have fk := hdk.k.frozen 1
        have hkl := hdk.k.lt
        unfold qcs at ck
        simp only [List.getElem?_toArray, List.getElem?_cons_succ, List.getElem?_cons_zero] at ck
        clear hdk hin hfr XP
        go_wp2_with fail
        go_roundw
        case rel =>
          refine ⟨i + 1, by omega, by go_num, ?_⟩
          rw [HN.out]
          refine hide (HK4.out.set_ 1 _ (by omega) ?_)
          intro D dn dc A' an ac E en ec F fn fc hd
          exact ⟨D, dn, dc, A', an, ac, E, en, ec, F, fn, fc, rfl, hd.d, hd.a, hd.e, hd.f⟩
        case measure => simp [intOf]; omega
      · have hix0 : ∀ W, (Instr.index 9 (.string ⟨l.toArray⟩) (.int .i64 (i : Int))).run Try.prog W = .ok (.int .u8 81) W := hix
        have HC : Hid (rdC 81 (r, st) = rdP2 (r, st)) := hide (by unfold rdC; rw [if_neg (by decide), if_pos rfl])
        rw [HC.out] at HN
        have XP := hide (rtxt_any (w1.heap.size + 1) (w.heap.size + 1) st wr HKx.out.1)
        unfold rdP2 at HN
        dsimp only at HN
        generalize txtS st = y at *
        obtain ⟨x, st'⟩ := y
        dsimp only at XP HN
        clear hix HC
        go_wp2_with fail
        with_reducible refine XP.out.mono ?_
        rintro e w4 ⟨rfl, hin, hfr⟩
        have HK4 := hide (HKx.out.fr hin hfr)
        obtain ⟨_, ⟨D, dn, dc, A', an, ac, E, en, ec, F, fn, fc, hdk⟩, -⟩ := HK4.out
        have ck := hdk.k.cell 2
        have fk := hdk.k.frozen 2
        have hkl := hdk.k.lt
        unfold qcs at ck
        simp only [List.getElem?_toArray, List.getElem?_cons_succ, List.getElem?_cons_zero] at ck
        clear hdk hin hfr XP
        go_wp2_with fail
        go_roundw
        case rel =>
          refine ⟨i + 1, by omega, by go_num, ?_⟩
          rw [HN.out]
          refine hide (HK4.out.set_ 2 _ (by omega) ?_)
          intro D dn dc A' an ac E en ec F fn fc hd
          exact ⟨D, dn, dc, A', an, ac, E, en, ec, F, fn, fc, rfl, hd.d, hd.a, hd.e, hd.f⟩
        case measure => simp [intOf]; omega
      · have hix0 : ∀ W, (Instr.index 9 (.string ⟨l.toArray⟩) (.int .i64 (i : Int))).run Try.prog W = .ok (.int .u8 72) W := hix
        have HC : Hid (rdC 72 (r, st) = rdH (r, st)) := hide (by unfold rdC; rw [if_neg (by decide), if_neg (by decide), if_pos rfl])
        rw [HC.out] at HN
        have XP := hide (rint_any (w1.heap.size + 1) (w.heap.size + 1) st wr HKx.out.1)
        unfold rdH at HN
        dsimp only at HN
        generalize intS st = y at *
        obtain ⟨x, st'⟩ := y
        dsimp only at XP HN
        clear hix HC
        go_wp2_with fail
        with_reducible refine XP.out.mono ?_
        rintro e w4 ⟨rfl, hin, hfr⟩
        have HK4 := hide (HKx.out.fr hin hfr)
        obtain ⟨_, ⟨D, dn, dc, A', an, ac, E, en, ec, F, fn, fc, hdk⟩, -⟩ := HK4.out
        have ck := hdk.k.cell 3
        have fk := hdk.k.frozen 3
        have hkl := hdk.k.lt
        unfold qcs at ck
        simp only [List.getElem?_toArray, List.getElem?_cons_succ, List.getElem?_cons_zero] at ck
        clear hdk hin hfr XP
        go_wp2_with fail
        go_roundw
        case rel =>
          refine ⟨i + 1, by omega, by go_num, ?_⟩
          rw [HN.out]
          refine hide (HK4.out.set_ 3 _ (by omega) ?_)
          intro D dn dc A' an ac E en ec F fn fc hd
          exact ⟨D, dn, dc, A', an, ac, E, en, ec, F, fn, fc, rfl, hd.d, hd.a, hd.e, hd.f⟩
        case measure => simp [intOf]; omega
      · have hix0 : ∀ W, (Instr.index 9 (.string ⟨l.toArray⟩) (.int .i64 (i : Int))).run Try.prog W = .ok (.int .u8 78) W := hix
        have HC : Hid (rdC 78 (r, st) = rdN (r, st)) := hide (by unfold rdC; rw [if_neg (by decide), if_neg (by decide), if_neg (by decide), if_pos rfl])
        rw [HC.out] at HN
        have XP := hide (rint_any (w1.heap.size + 1) (w.heap.size + 1) st wr HKx.out.1)
        unfold rdN at HN
        dsimp only at HN
        generalize intS st = y at *
        obtain ⟨x, st'⟩ := y
        dsimp only at XP HN
        clear hix HC
        go_wp2_with fail
        with_reducible refine XP.out.mono ?_
        rintro e w4 ⟨rfl, hin, hfr⟩
        have HK4 := hide (HKx.out.fr hin hfr)
        obtain ⟨_, ⟨D, dn, dc, A', an, ac, E, en, ec, F, fn, fc, hdk⟩, -⟩ := HK4.out
        have ck := hdk.k.cell 4
        have fk := hdk.k.frozen 4
        have hkl := hdk.k.lt
        unfold qcs at ck
        simp only [List.getElem?_toArray, List.getElem?_cons_succ, List.getElem?_cons_zero] at ck
        clear hdk hin hfr XP
        go_wp2_with fail
        go_roundw
        case rel =>
          refine ⟨i + 1, by omega, by go_num, ?_⟩
          rw [HN.out]
          refine hide (HK4.out.set_ 4 _ (by omega) ?_)
          intro D dn dc A' an ac E en ec F fn fc hd
          exact ⟨D, dn, dc, A', an, ac, E, en, ec, F, fn, fc, rfl, hd.d, hd.a, hd.e, hd.f⟩
        case measure => simp [intOf]; omega
      · have hix0 : ∀ W, (Instr.index 9 (.string ⟨l.toArray⟩) (.int .i64 (i : Int))).run Try.prog W = .ok (.int .u8 70) W := hix
        have HC : Hid (rdC 70 (r, st) = rdFl (r, st)) := hide (by unfold rdC; rw [if_neg (by decide), if_neg (by decide), if_neg (by decide), if_neg (by decide), if_pos rfl])
        rw [HC.out] at HN
        have XP := hide (rint_any (w1.heap.size + 1) (w.heap.size + 1) st wr HKx.out.1)
        unfold rdFl at HN
        dsimp only at HN
        generalize intS st = y at *
        obtain ⟨x, st'⟩ := y
        dsimp only at XP HN
        clear hix HC
        go_wp2_with fail
        with_reducible refine XP.out.mono ?_
        rintro e w4 ⟨rfl, hin, hfr⟩
        have HK4 := hide (HKx.out.fr hin hfr)
        obtain ⟨_, ⟨D, dn, dc, A', an, ac, E, en, ec, F, fn, fc, hdk⟩, -⟩ := HK4.out
        have ck := hdk.k.cell 5
        have fk := hdk.k.frozen 5
        have hkl := hdk.k.lt
        unfold qcs at ck
        simp only [List.getElem?_toArray, List.getElem?_cons_succ, List.getElem?_cons_zero] at ck
        clear hdk hin hfr XP
        go_wp2_with fail
        go_roundw
        case rel =>
          refine ⟨i + 1, by omega, by go_num, ?_⟩
          rw [HN.out]
          refine hide (HK4.out.set_ 5 _ (by omega) ?_)
          intro D dn dc A' an ac E en ec F fn fc hd
          exact ⟨D, dn, dc, A', an, ac, E, en, ec, F, fn, fc, rfl, hd.d, hd.a, hd.e, hd.f⟩
        case measure => simp [intOf]; omega
      · have hix0 : ∀ W, (Instr.index 9 (.string ⟨l.toArray⟩) (.int .i64 (i : Int))).run Try.prog W = .ok (.int .u8 68) W := hix
        have HC : Hid (rdC 68 (r, st) = rdD (r, st)) := hide (by unfold rdC; rw [if_neg (by decide), if_neg (by decide), if_neg (by decide), if_neg (by decide), if_neg (by decide), if_pos rfl])
        rw [HC.out] at HN
        have XP := hide (rtxt_any (w1.heap.size + 1) (w.heap.size + 1) st wr HKx.out.1)
        unfold rdD at HN
        dsimp only at HN
        generalize txtS st = y at *
        obtain ⟨x, st'⟩ := y
        dsimp only at XP HN
        clear hix HC
        go_wp2_with fail
        with_reducible refine XP.out.mono ?_
        rintro e w4 ⟨rfl, hin, hfr⟩
        have HK4 := hide (HKx.out.fr hin hfr)
        obtain ⟨w5, cp, hcv, hcr, hcb⟩ := conv_rd x w4
        have HK5 := hide (HK4.out.fr (HK4.out.1.keep (fun z hz => hcb.block z (by have := HK4.out.1.lt; omega)) hcb.size) (Fr.of_below hcb))
        have HFd : Hid (FR (w1.heap.size + 1) w5 (some ⟨w4.heap.size, 0, none⟩) x.length (bv x)) := hide ⟨hcr, fun ad h _ => by injection h with h; subst h; exact HK4.out.1.lt.2⟩
        obtain ⟨_, ⟨D, dn, dc, A', an, ac, E, en, ec, F, fn, fc, hdk⟩, -⟩ := HK5.out
        have ck := hdk.k.cell 6
        have fk := hdk.k.frozen 6
        have hkl := hdk.k.lt
        unfold qcs at ck
        simp only [List.getElem?_toArray, List.getElem?_cons_succ, List.getElem?_cons_zero] at ck
        clear hdk hin hfr XP
        go_wp2_with fail
        go_roundw
        case rel =>
          refine ⟨i + 1, by omega, by go_num, ?_⟩
          rw [HN.out]
          refine hide (HK5.out.set_ 6 _ (by omega) ?_)
          intro D dn dc A' an ac E en ec F fn fc hd
          exact ⟨_, _, _, A', an, ac, E, en, ec, F, fn, fc, rfl, HFd.out, hd.a, hd.e, hd.f⟩
        case measure => simp [intOf]; omega
      · have hix0 : ∀ W, (Instr.index 9 (.string ⟨l.toArray⟩) (.int .i64 (i : Int))).run Try.prog W = .ok (.int .u8 65) W := hix
        have HC : Hid (rdC 65 (r, st) = rdA2 (r, st)) := hide (by unfold rdC; rw [if_neg (by decide), if_neg (by decide), if_neg (by decide), if_neg (by decide), if_neg (by decide), if_neg (by decide), if_pos rfl])
        rw [HC.out] at HN
        have XP := hide (rtxts_any (w1.heap.size + 1) (w.heap.size + 1) st wr HKx.out.1)
        unfold rdA2 at HN
        dsimp only at HN
        generalize listR txtS st = y at *
        obtain ⟨x, st'⟩ := y
        dsimp only at XP HN
        clear hix HC
        go_wp2_with fail
        with_reducible refine XP.out.mono ?_
        rintro e w4 ⟨A9, n9, c9, rfl, ho, hin, hfr⟩
        have HK4 := hide (HKx.out.fr hin hfr)
        have HFd := hide (FR.own (own_more ho HKx.out.1.lt.2))
        obtain ⟨_, ⟨D, dn, dc, A', an, ac, E, en, ec, F, fn, fc, hdk⟩, -⟩ := HK4.out
        have ck := hdk.k.cell 7
        have fk := hdk.k.frozen 7
        have hkl := hdk.k.lt
        unfold qcs at ck
        simp only [List.getElem?_toArray, List.getElem?_cons_succ, List.getElem?_cons_zero] at ck
        clear hdk hin hfr XP ho
        go_wp2_with fail
        go_roundw
        case rel =>
          refine ⟨i + 1, by omega, by go_num, ?_⟩
          rw [HN.out]
          refine hide (HK4.out.set_ 7 _ (by omega) ?_)
          intro D dn dc A' an ac E en ec F fn fc hd
          exact ⟨D, dn, dc, _, _, _, E, en, ec, F, fn, fc, rfl, hd.d, HFd.out, hd.e, hd.f⟩
        case measure => simp [intOf]; omega
      · have hix0 : ∀ W, (Instr.index 9 (.string ⟨l.toArray⟩) (.int .i64 (i : Int))).run Try.prog W = .ok (.int .u8 69) W := hix
        have HC : Hid (rdC 69 (r, st) = rdE2 (r, st)) := hide (by unfold rdC; rw [if_neg (by decide), if_neg (by decide), if_neg (by decide), if_neg (by decide), if_neg (by decide), if_neg (by decide), if_neg (by decide), if_pos rfl])
        rw [HC.out] at HN
        have XP := hide (rtxts_any (w1.heap.size + 1) (w.heap.size + 1) st wr HKx.out.1)
        unfold rdE2 at HN
        dsimp only at HN
        generalize listR txtS st = y at *
        obtain ⟨x, st'⟩ := y
        dsimp only at XP HN
        clear hix HC
        go_wp2_with fail
        with_reducible refine XP.out.mono ?_
        rintro e w4 ⟨A9, n9, c9, rfl, ho, hin, hfr⟩
        have HK4 := hide (HKx.out.fr hin hfr)
        have HFd := hide (FR.own (own_more ho HKx.out.1.lt.2))
        obtain ⟨_, ⟨D, dn, dc, A', an, ac, E, en, ec, F, fn, fc, hdk⟩, -⟩ := HK4.out
        have ck := hdk.k.cell 8
        have fk := hdk.k.frozen 8
        have hkl := hdk.k.lt
        unfold qcs at ck
        simp only [List.getElem?_toArray, List.getElem?_cons_succ, List.getElem?_cons_zero] at ck
        clear hdk hin hfr XP ho
        go_wp2_with fail
        go_roundw
        case rel =>
          refine ⟨i + 1, by omega, by go_num, ?_⟩
          rw [HN.out]
          refine hide (HK4.out.set_ 8 _ (by omega) ?_)
          intro D dn dc A' an ac E en ec F fn fc hd
          exact ⟨D, dn, dc, A', an, ac, _, _, _, F, fn, fc, rfl, hd.d, hd.a, HFd.out, hd.f⟩
        case measure => simp [intOf]; omega
      · have hix0 : ∀ W, (Instr.index 9 (.string ⟨l.toArray⟩) (.int .i64 (i : Int))).run Try.prog W = .ok (.int .u8 84) W := hix
        have HC : Hid (rdC 84 (r, st) = rdF2 (r, st)) := hide (by unfold rdC; rw [if_neg (by decide), if_neg (by decide), if_neg (by decide), if_neg (by decide), if_neg (by decide), if_neg (by decide), if_neg (by decide), if_neg (by decide)])
        rw [HC.out] at HN
        have XP := hide (rints_any (w1.heap.size + 1) (w.heap.size + 1) st wr HKx.out.1)
        unfold rdF2 at HN
        dsimp only at HN
        generalize listR intS st = y at *
        obtain ⟨x, st'⟩ := y
        dsimp only at XP HN
        clear hix HC
        go_wp2_with fail
        with_reducible refine XP.out.mono ?_
        rintro e w4 ⟨A9, n9, c9, rfl, ho, hin, hfr⟩
        have HK4 := hide (HKx.out.fr hin hfr)
        have HFd := hide (FR.own (own_more ho HKx.out.1.lt.2))
        obtain ⟨_, ⟨D, dn, dc, A', an, ac, E, en, ec, F, fn, fc, hdk⟩, -⟩ := HK4.out
        have ck := hdk.k.cell 9
        have fk := hdk.k.frozen 9
        have hkl := hdk.k.lt
        unfold qcs at ck
        simp only [List.getElem?_toArray, List.getElem?_cons_succ, List.getElem?_cons_zero] at ck
        clear hdk hin hfr XP ho
        go_wp2_with fail
        go_roundw
        case rel =>
          refine ⟨i + 1, by omega, by go_num, ?_⟩
          rw [HN.out]
          refine hide (HK4.out.set_ 9 _ (by omega) ?_)
          intro D dn dc A' an ac E en ec F fn fc hd
          exact ⟨D, dn, dc, A', an, ac, E, en, ec, _, _, _, rfl, hd.d, hd.a, hd.e, HFd.out⟩
        case measure => simp [intOf]; omega
    · obtain rfl : i = l.length := by omega
      have hlt1 : ¬ (l.length : Int) < (l.length : Int) := by omega
      rw [List.take_length, ← HQ.out] at HKx
      obtain ⟨r9, st9⟩ := Q9
      dsimp only at HR HLN
      have HBx := hide HKx.out.2.2.1
      obtain ⟨⟨IA, In, Ic, Iat, Ibs, n1, -⟩, ⟨D, dn, dc, E1, an, ac, E, en, ec, F, fn, fc, hdk⟩, -, hgB, -⟩ := HKx.out
      have HP9 : Hid (Blk wr (w.heap.size + 1) 80 #[.slice IA In Ic, .int .i64 (Iat : Nat), .bool st9.2]) := hide n1
      have HDK : Hid (DkAt (w1.heap.size + 1) w1.heap.size r9 wr D E1 E F dn dc an ac en ec fn fc) := hide hdk
      have k9 := HDK.out.k
      unfold qcs at k9
      have hgl := k9.lt
      obtain ⟨x0, x1, x2, x3, x4, x5, x6, x7, x8, x9⟩ := blk10 k9
      have HZx : Hid (Blk wr w.heap.size 26 #[.int .i64 0, .string ⟨#[]⟩, .string ⟨#[]⟩, .int .i64 0, .int .i64 0, .int .i64 0, .slice none 0 0, .slice none 0 0, .slice none 0 0, .slice none 0 0]) := hide ((HBx.out.block w.heap.size (by omega)).trans (Blk.new w 26 #[.int .i64 0, .string ⟨#[]⟩, .string ⟨#[]⟩, .int .i64 0, .int .i64 0, .int .i64 0, .slice none 0 0, .slice none 0 0, .slice none 0 0, .slice none 0 0]))
      have HBw : Hid (Below w.heap.size w wr) := hide (((Below.refl w.heap.size w).alloc (Nat.le_refl _) (.cells #[.int .i64 0, .string ⟨#[]⟩, .string ⟨#[]⟩, .int .i64 0, .int .i64 0, .int .i64 0, .slice none 0 0, .slice none 0 0, .slice none 0 0, .slice none 0 0] 26)).trans (HBx.out.mono (by omega)))
      have HRQ : Hid (RdQ wr r9 D E1 E F dn dc an ac en ec fn fc) := hide ⟨HDK.out.d.1, HDK.out.a.1, HDK.out.e.1, HDK.out.f.1⟩
      have hln : an ≤ 1000 ∧ en ≤ 1000 ∧ fn ≤ 100000 := by
        have e1 := rd_len HRQ.out.a
        have e2 := rd_len HRQ.out.e
        have e3 := ri_len HRQ.out.f
        have e4 := HLN.out
        obtain ⟨q1, q2, q3⟩ := e4
        omega
      clear n1 hdk k9 HQ HLC HF1 HKx hgB HLN
      cases hok : r9.ok with
      | false =>
        have XE := hide (renc_no r9 D E1 E F dn dc an ac en ec fn fc wr HRQ.out hln hok)
        unfold RQ.v at XE
        have hRn : R = none := by rw [HR.out, hok]; simp
        clear hok HR
        go_wp2_with fail
        refine XE.out.mono ?_
        rintro e w7 ⟨rfl, hb7⟩
        have HB7 := hide (below_more HBw.out (Nat.le_refl _) hb7)
        have HZ7 := hide (HZx.out.below hb7 HZx.out.lt)
        have c2 := (HP9.out.below hb7 HP9.out.lt).cell 2
        simp only [List.getElem?_toArray, List.getElem?_cons_succ, List.getElem?_cons_zero] at c2
        clear XE hb7 x0 x1 x2 x3 x4 x5 x6 x7 x8 x9 HBw HZx
        have hgl7 := HZ7.out.lt
        obtain ⟨z0, z1, z2, z3, z4, z5, z6, z7, z8, z9⟩ := blk10 HZ7.out
        obtain ⟨f0, f1, f2, f3, f4, f5, f6, f7, f8, f9⟩ := fro10 HZ7.out
        have HE : Hid (RDEnd R w (.returned (.tuple #[zv, .int .i64 5])) ((((((((((w7.setCell ⟨w.heap.size, 0, none⟩ (.int .i64 0)).setCell ⟨w.heap.size, 1, none⟩ (.string ⟨#[]⟩)).setCell ⟨w.heap.size, 2, none⟩ (.string ⟨#[]⟩)).setCell ⟨w.heap.size, 3, none⟩ (.int .i64 0)).setCell ⟨w.heap.size, 4, none⟩ (.int .i64 0)).setCell ⟨w.heap.size, 5, none⟩ (.int .i64 0)).setCell ⟨w.heap.size, 6, none⟩ (.slice none 0 0)).setCell ⟨w.heap.size, 7, none⟩ (.slice none 0 0)).setCell ⟨w.heap.size, 8, none⟩ (.slice none 0 0)).setCell ⟨w.heap.size, 9, none⟩ (.slice none 0 0))) := hide (rdec_none hRn (below10 HB7.out _ _ _ _ _ _ _ _ _ _))
        have HZe := hide (blk10s HZ7.out (.int .i64 0) (.string ⟨#[]⟩) (.string ⟨#[]⟩) (.int .i64 0) (.int .i64 0) (.int .i64 0) (.slice none 0 0) (.slice none 0 0) (.slice none 0 0) (.slice none 0 0))
        unfold zv at HE
        generalize hWE : ((((((((((w7.setCell ⟨w.heap.size, 0, none⟩ (.int .i64 0)).setCell ⟨w.heap.size, 1, none⟩ (.string ⟨#[]⟩)).setCell ⟨w.heap.size, 2, none⟩ (.string ⟨#[]⟩)).setCell ⟨w.heap.size, 3, none⟩ (.int .i64 0)).setCell ⟨w.heap.size, 4, none⟩ (.int .i64 0)).setCell ⟨w.heap.size, 5, none⟩ (.int .i64 0)).setCell ⟨w.heap.size, 6, none⟩ (.slice none 0 0)).setCell ⟨w.heap.size, 7, none⟩ (.slice none 0 0)).setCell ⟨w.heap.size, 8, none⟩ (.slice none 0 0)).setCell ⟨w.heap.size, 9, none⟩ (.slice none 0 0)) = WE at HE HZe
        clear hRn
        cases hsb : st9.2 with
        | true =>
          rw [hsb] at c2
          clear hsb
          go_wp2_with fail
          clear hWE z0 z1 z2 z3 z4 z5 z6 z7 z8 z9 f0 f1 f2 f3 f4 f5 f6 f7 f8 f9
          obtain ⟨z0, z1, z2, z3, z4, z5, z6, z7, z8, z9⟩ := blk10 HZe.out
          refine bodyPost_ret (v := .tuple #[.agg #[.int .i64 0, .string ⟨#[]⟩, .string ⟨#[]⟩, .int .i64 0, .int .i64 0, .int .i64 0, .slice none 0 0, .slice none 0 0, .slice none 0 0, .slice none 0 0], .int .i64 5]) (by simp only [results, Try.results12]; go_simp) rfl HE.out
        | false =>
          rw [hsb] at c2
          clear hsb
          go_wp2_with fail
          clear hWE z0 z1 z2 z3 z4 z5 z6 z7 z8 z9 f0 f1 f2 f3 f4 f5 f6 f7 f8 f9
          obtain ⟨z0, z1, z2, z3, z4, z5, z6, z7, z8, z9⟩ := blk10 HZe.out
          refine bodyPost_ret (v := .tuple #[.agg #[.int .i64 0, .string ⟨#[]⟩, .string ⟨#[]⟩, .int .i64 0, .int .i64 0, .int .i64 0, .slice none 0 0, .slice none 0 0, .slice none 0 0, .slice none 0 0], .int .i64 5]) (by simp only [results, Try.results12]; go_simp) rfl HE.out
      | true =>
        have XE := hide (renc_yes r9 D E1 E F dn dc an ac en ec fn fc wr HRQ.out hok)
        unfold RQ.v at XE
        have HRv : Hid (R = if (!st9.2 && (encQ r9 == bs)) = true then some r9 else none) := hide (by rw [HR.out, hok]; simp)
        clear hok HR
        go_wp2_with fail
        refine XE.out.mono ?_
        rintro e w7 ⟨A5, n5, c5, rfl, ho5, hb7⟩
        have HB7 := hide (below_more HBw.out (Nat.le_refl _) hb7)
        have HZ7 := hide (HZx.out.below hb7 HZx.out.lt)
        have c2 := (HP9.out.below hb7 HP9.out.lt).cell 2
        simp only [List.getElem?_toArray, List.getElem?_cons_succ, List.getElem?_cons_zero] at c2
        have t1 := run_string_of (P := Try.prog) w7 w7.heap.size 22 9 5 A5 n5 c5 (encQ r9) Try.underlying22 Try.underlying5 Try.underlying9 ho5.rd
        have t2 := run_string_of (P := Try.prog) w7 w7.heap.size 22 9 5 A n c bs Try.underlying22 Try.underlying5 Try.underlying9 (rdb HRA.out HB7.out)
        have HD7 := hide (HDK.out.d.keep (fun x hx hl => hb7.block x hl) hb7.size)
        have HA7 := hide (HDK.out.a.keep (fun x hx hl => hb7.block x hl) hb7.size)
        have HE7 := hide (HDK.out.e.keep (fun x hx hl => hb7.block x hl) hb7.size)
        have HF7 := hide (HDK.out.f.keep (fun x hx hl => hb7.block x hl) hb7.size)
        have k7 := HDK.out.k.below hb7 hgl
        unfold qcs at k7
        clear XE hb7 ho5 x0 x1 x2 x3 x4 x5 x6 x7 x8 x9 HBw HZx HDK
        obtain ⟨x0, x1, x2, x3, x4, x5, x6, x7, x8, x9⟩ := blk10 k7
        have hgl7 := HZ7.out.lt
        have hgk7 := k7.lt
        clear k7
        generalize encQ r9 = es at *
        cases hsb : st9.2 with
        | true =>
          rw [hsb] at c2 HRv
          have hRn : R = none := by rw [HRv.out]; simp
          clear hsb HRv
          obtain ⟨z0, z1, z2, z3, z4, z5, z6, z7, z8, z9⟩ := blk10 HZ7.out
          obtain ⟨f0, f1, f2, f3, f4, f5, f6, f7, f8, f9⟩ := fro10 HZ7.out
          have HE : Hid (RDEnd R w (.returned (.tuple #[zv, .int .i64 5])) ((((((((((w7.setCell ⟨w.heap.size, 0, none⟩ (.int .i64 0)).setCell ⟨w.heap.size, 1, none⟩ (.string ⟨#[]⟩)).setCell ⟨w.heap.size, 2, none⟩ (.string ⟨#[]⟩)).setCell ⟨w.heap.size, 3, none⟩ (.int .i64 0)).setCell ⟨w.heap.size, 4, none⟩ (.int .i64 0)).setCell ⟨w.heap.size, 5, none⟩ (.int .i64 0)).setCell ⟨w.heap.size, 6, none⟩ (.slice none 0 0)).setCell ⟨w.heap.size, 7, none⟩ (.slice none 0 0)).setCell ⟨w.heap.size, 8, none⟩ (.slice none 0 0)).setCell ⟨w.heap.size, 9, none⟩ (.slice none 0 0))) := hide (rdec_none hRn (below10 HB7.out _ _ _ _ _ _ _ _ _ _))
          have HZe := hide (blk10s HZ7.out (.int .i64 0) (.string ⟨#[]⟩) (.string ⟨#[]⟩) (.int .i64 0) (.int .i64 0) (.int .i64 0) (.slice none 0 0) (.slice none 0 0) (.slice none 0 0) (.slice none 0 0))
          unfold zv at HE
          generalize hWE : ((((((((((w7.setCell ⟨w.heap.size, 0, none⟩ (.int .i64 0)).setCell ⟨w.heap.size, 1, none⟩ (.string ⟨#[]⟩)).setCell ⟨w.heap.size, 2, none⟩ (.string ⟨#[]⟩)).setCell ⟨w.heap.size, 3, none⟩ (.int .i64 0)).setCell ⟨w.heap.size, 4, none⟩ (.int .i64 0)).setCell ⟨w.heap.size, 5, none⟩ (.int .i64 0)).setCell ⟨w.heap.size, 6, none⟩ (.slice none 0 0)).setCell ⟨w.heap.size, 7, none⟩ (.slice none 0 0)).setCell ⟨w.heap.size, 8, none⟩ (.slice none 0 0)).setCell ⟨w.heap.size, 9, none⟩ (.slice none 0 0)) = WE at HE HZe
          clear hRn
          go_wp2_with fail
          clear hWE z0 z1 z2 z3 z4 z5 z6 z7 z8 z9 f0 f1 f2 f3 f4 f5 f6 f7 f8 f9
          obtain ⟨z0, z1, z2, z3, z4, z5, z6, z7, z8, z9⟩ := blk10 HZe.out
          refine bodyPost_ret (v := .tuple #[.agg #[.int .i64 0, .string ⟨#[]⟩, .string ⟨#[]⟩, .int .i64 0, .int .i64 0, .int .i64 0, .slice none 0 0, .slice none 0 0, .slice none 0 0, .slice none 0 0], .int .i64 5]) (by simp only [results, Try.results12]; go_simp) rfl HE.out
        | false =>
          rw [hsb] at c2 HRv
          clear hsb
          cases he : (es == bs) with
          | false =>
            have hne : (es != bs) = true := by simp [bne, he]
            have hRn : R = none := by rw [HRv.out, he]; simp
            clear HRv
            obtain ⟨z0, z1, z2, z3, z4, z5, z6, z7, z8, z9⟩ := blk10 HZ7.out
            obtain ⟨f0, f1, f2, f3, f4, f5, f6, f7, f8, f9⟩ := fro10 HZ7.out
            have HE : Hid (RDEnd R w (.returned (.tuple #[zv, .int .i64 5])) ((((((((((w7.setCell ⟨w.heap.size, 0, none⟩ (.int .i64 0)).setCell ⟨w.heap.size, 1, none⟩ (.string ⟨#[]⟩)).setCell ⟨w.heap.size, 2, none⟩ (.string ⟨#[]⟩)).setCell ⟨w.heap.size, 3, none⟩ (.int .i64 0)).setCell ⟨w.heap.size, 4, none⟩ (.int .i64 0)).setCell ⟨w.heap.size, 5, none⟩ (.int .i64 0)).setCell ⟨w.heap.size, 6, none⟩ (.slice none 0 0)).setCell ⟨w.heap.size, 7, none⟩ (.slice none 0 0)).setCell ⟨w.heap.size, 8, none⟩ (.slice none 0 0)).setCell ⟨w.heap.size, 9, none⟩ (.slice none 0 0))) := hide (rdec_none hRn (below10 HB7.out _ _ _ _ _ _ _ _ _ _))
            have HZe := hide (blk10s HZ7.out (.int .i64 0) (.string ⟨#[]⟩) (.string ⟨#[]⟩) (.int .i64 0) (.int .i64 0) (.int .i64 0) (.slice none 0 0) (.slice none 0 0) (.slice none 0 0) (.slice none 0 0))
            unfold zv at HE
            generalize hWE : ((((((((((w7.setCell ⟨w.heap.size, 0, none⟩ (.int .i64 0)).setCell ⟨w.heap.size, 1, none⟩ (.string ⟨#[]⟩)).setCell ⟨w.heap.size, 2, none⟩ (.string ⟨#[]⟩)).setCell ⟨w.heap.size, 3, none⟩ (.int .i64 0)).setCell ⟨w.heap.size, 4, none⟩ (.int .i64 0)).setCell ⟨w.heap.size, 5, none⟩ (.int .i64 0)).setCell ⟨w.heap.size, 6, none⟩ (.slice none 0 0)).setCell ⟨w.heap.size, 7, none⟩ (.slice none 0 0)).setCell ⟨w.heap.size, 8, none⟩ (.slice none 0 0)).setCell ⟨w.heap.size, 9, none⟩ (.slice none 0 0)) = WE at HE HZe
            clear hRn
            go_wp2_with fail
            clear hWE z0 z1 z2 z3 z4 z5 z6 z7 z8 z9 f0 f1 f2 f3 f4 f5 f6 f7 f8 f9
            obtain ⟨z0, z1, z2, z3, z4, z5, z6, z7, z8, z9⟩ := blk10 HZe.out
            refine bodyPost_ret (v := .tuple #[.agg #[.int .i64 0, .string ⟨#[]⟩, .string ⟨#[]⟩, .int .i64 0, .int .i64 0, .int .i64 0, .slice none 0 0, .slice none 0 0, .slice none 0 0, .slice none 0 0], .int .i64 5]) (by simp only [results, Try.results12]; go_simp) rfl HE.out
          | true =>
            have hne : (es != bs) = false := by simp [bne, he]
            have hRs : R = some r9 := by rw [HRv.out, he]; simp
            clear HRv
            have HE : Hid (RDEnd R w (.returned (.tuple #[r9.v D E1 E F dn dc an ac en ec fn fc, .int .i64 0])) ((((((((((w7.setCell ⟨w.heap.size, 0, none⟩ (.int .i64 r9.op)).setCell ⟨w.heap.size, 1, none⟩ (.string ⟨r9.p.toArray⟩)).setCell ⟨w.heap.size, 2, none⟩ (.string ⟨r9.p2.toArray⟩)).setCell ⟨w.heap.size, 3, none⟩ (.int .i64 r9.h)).setCell ⟨w.heap.size, 4, none⟩ (.int .i64 r9.n)).setCell ⟨w.heap.size, 5, none⟩ (.int .i64 r9.fl)).setCell ⟨w.heap.size, 6, none⟩ (.slice D dn dc)).setCell ⟨w.heap.size, 7, none⟩ (.slice E1 an ac)).setCell ⟨w.heap.size, 8, none⟩ (.slice E en ec)).setCell ⟨w.heap.size, 9, none⟩ (.slice F fn fc))) := hide (by
              rw [hRs]
              exact ⟨D, dn, dc, E1, an, ac, E, en, ec, F, fn, fc, rfl, ⟨rd10 (fr_low HD7.out (by omega)) _ _ _ _ _ _ _ _ _ _, rd10 (fr_low HA7.out (by omega)) _ _ _ _ _ _ _ _ _ _, rd10 (fr_low HE7.out (by omega)) _ _ _ _ _ _ _ _ _ _, rd10 (fr_low HF7.out (by omega)) _ _ _ _ _ _ _ _ _ _⟩, below10 HB7.out _ _ _ _ _ _ _ _ _ _⟩)
            have HZe := hide (blk10s HZ7.out (.int .i64 r9.op) (.string ⟨r9.p.toArray⟩) (.string ⟨r9.p2.toArray⟩) (.int .i64 r9.h) (.int .i64 r9.n) (.int .i64 r9.fl) (.slice D dn dc) (.slice E1 an ac) (.slice E en ec) (.slice F fn fc))
            obtain ⟨z0, z1, z2, z3, z4, z5, z6, z7, z8, z9⟩ := blk10 HZ7.out
            obtain ⟨f0, f1, f2, f3, f4, f5, f6, f7, f8, f9⟩ := fro10 HZ7.out
            unfold RQ.v at HE
            generalize hWE : ((((((((((w7.setCell ⟨w.heap.size, 0, none⟩ (.int .i64 r9.op)).setCell ⟨w.heap.size, 1, none⟩ (.string ⟨r9.p.toArray⟩)).setCell ⟨w.heap.size, 2, none⟩ (.string ⟨r9.p2.toArray⟩)).setCell ⟨w.heap.size, 3, none⟩ (.int .i64 r9.h)).setCell ⟨w.heap.size, 4, none⟩ (.int .i64 r9.n)).setCell ⟨w.heap.size, 5, none⟩ (.int .i64 r9.fl)).setCell ⟨w.heap.size, 6, none⟩ (.slice D dn dc)).setCell ⟨w.heap.size, 7, none⟩ (.slice E1 an ac)).setCell ⟨w.heap.size, 8, none⟩ (.slice E en ec)).setCell ⟨w.heap.size, 9, none⟩ (.slice F fn fc)) = WE at HE HZe
            clear hRs
            go_wp2_with fail
            clear hWE z0 z1 z2 z3 z4 z5 z6 z7 z8 z9 f0 f1 f2 f3 f4 f5 f6 f7 f8 f9 x0 x1 x2 x3 x4 x5 x6 x7 x8 x9
            obtain ⟨z0, z1, z2, z3, z4, z5, z6, z7, z8, z9⟩ := blk10 HZe.out
            refine bodyPost_ret (v := .tuple #[.agg #[.int .i64 r9.op, .string ⟨r9.p.toArray⟩, .string ⟨r9.p2.toArray⟩, .int .i64 r9.h, .int .i64 r9.n, .int .i64 r9.fl, .slice D dn dc, .slice E1 an ac, .slice E en ec, .slice F fn fc], .int .i64 0]) (by simp only [results, Try.results12]; go_simp) rfl HE.out
end Go.Proofs.Ytedacfjkbfgikaa
namespace Go.Proofs.Ytedacfjkbfgikaa
open Go.RowKit
set_option linter.unusedVariables false
set_option maxHeartbeats 1000000 in
theorem rgov_any (op : Int) (w : World) : Calls Try.prog 18 #[.int .i64 op] w fun e w' => e = .returned (.bool (govP op)) ∧ w = w' := by
  by_cases h1 : op = 1
  · subst h1
    go_enter Try.func18, Try.ntmps18
    go_wp2_with fail
    go_ret
    exact ⟨rfl, rfl⟩
  · by_cases h6 : op = 6
    · subst h6
      go_enter Try.func18, Try.ntmps18
      go_wp2_with fail
      go_ret
      exact ⟨rfl, rfl⟩
    · by_cases h7 : op = 7
      · subst h7
        go_enter Try.func18, Try.ntmps18
        go_wp2_with fail
        go_ret
        exact ⟨rfl, rfl⟩
      · have f1 : (op == 1) = false := by simpa using h1
        have f6 : (op == 6) = false := by simpa using h6
        have f7 : (op == 7) = false := by simpa using h7
        by_cases h9 : 9 ≤ op
        · by_cases h14 : op ≤ 14
          · rcases (show op = 9 ∨ op = 10 ∨ op = 11 ∨ op = 12 ∨ op = 13 ∨ op = 14 by omega) with rfl | rfl | rfl | rfl | rfl | rfl
            all_goals
              go_enter Try.func18, Try.ntmps18
              go_wp2_with fail
              go_ret
              exact ⟨rfl, rfl⟩
          · have hg : govP op = false := by
              have e9 : ¬ op = 9 := by omega
              have e10 : ¬ op = 10 := by omega
              have e11 : ¬ op = 11 := by omega
              have e12 : ¬ op = 12 := by omega
              have e13 : ¬ op = 13 := by omega
              have e14 : ¬ op = 14 := by omega
              unfold govP
              simp [h1, h6, h7, e9, e10, e11, e12, e13, e14]
            rw [hg]
            go_enter Try.func18, Try.ntmps18
            go_wp2_with fail
            go_ret
            exact ⟨rfl, rfl⟩
        · have hg : govP op = false := by
            have e9 : ¬ op = 9 := by omega
            have e10 : ¬ op = 10 := by omega
            have e11 : ¬ op = 11 := by omega
            have e12 : ¬ op = 12 := by omega
            have e13 : ¬ op = 13 := by omega
            have e14 : ¬ op = 14 := by omega
            unfold govP
            simp [h1, h6, h7, e9, e10, e11, e12, e13, e14]
          rw [hg]
          go_enter Try.func18, Try.ntmps18
          go_wp2_with fail
          go_ret
          exact ⟨rfl, rfl⟩
def encE (r : RQ) : LB := if r.ok = true then encQ r else []
def encK (r : RQ) : Int := if r.ok = true then 0 else 2
theorem enc_both (r : RQ) (D1 A1 E1 F1 : Option Addr) (dn1 dc1 an1 ac1 en1 ec1 fn1 fc1 : Nat) (w : World) (h : RdQ w r D1 A1 E1 F1 dn1 dc1 an1 ac1 en1 ec1 fn1 fc1) (ho : i64ok r.op) (hn : dn1 ≤ 100000 ∧ an1 ≤ 1000 ∧ en1 ≤ 1000 ∧ fn1 ≤ 100000) :
    Calls Try.prog 9 #[.agg #[.int .i64 r.op, .string ⟨r.p.toArray⟩, .string ⟨r.p2.toArray⟩, .int .i64 r.h, .int .i64 r.n, .int .i64 r.fl, .slice D1 dn1 dc1, .slice A1 an1 ac1, .slice E1 en1 ec1, .slice F1 fn1 fc1]] w fun e w' => ∃ A' n' c', e = .returned (.tuple #[.slice A' n' c', .int .i64 (encK r)]) ∧ Rd w' A' n' (encE r) ∧ Below w.heap.size w w' := by
  unfold encE encK
  cases hok : r.ok with
  | true => exact (enc_yes r D1 A1 E1 F1 dn1 dc1 an1 ac1 en1 ec1 fn1 fc1 w h.d h.a h.e h.f ho hn hok).mono fun e w' ⟨A', n', c', h1, h2, h3⟩ => ⟨A', n', c', h1, h2.rd, h3⟩
  | false => exact (enc_no r D1 A1 E1 F1 dn1 dc1 an1 ac1 en1 ec1 fn1 fc1 w h.d h.a h.e h.f ho hn hok).mono fun e w' ⟨h1, h2⟩ => ⟨none, 0, 0, h1, Reads.none_, h2⟩
theorem renc_both (r : RQ) (D1 A1 E1 F1 : Option Addr) (dn1 dc1 an1 ac1 en1 ec1 fn1 fc1 : Nat) (w : World) (h : RdQ w r D1 A1 E1 F1 dn1 dc1 an1 ac1 en1 ec1 fn1 fc1) (hn : an1 ≤ 1000 ∧ en1 ≤ 1000 ∧ fn1 ≤ 100000) :
    Calls Try.prog 10 #[.agg #[.int .i64 r.op, .string ⟨r.p.toArray⟩, .string ⟨r.p2.toArray⟩, .int .i64 r.h, .int .i64 r.n, .int .i64 r.fl, .slice D1 dn1 dc1, .slice A1 an1 ac1, .slice E1 en1 ec1, .slice F1 fn1 fc1]] w fun e w' => ∃ A' n' c', e = .returned (.tuple #[.slice A' n' c', .int .i64 (encK r)]) ∧ Rd w' A' n' (encE r) ∧ Below w.heap.size w w' := by
  unfold encE encK
  cases hok : r.ok with
  | true => exact (renc_yes r D1 A1 E1 F1 dn1 dc1 an1 ac1 en1 ec1 fn1 fc1 w h hok).mono fun e w' ⟨A', n', c', h1, h2, h3⟩ => ⟨A', n', c', h1, h2.rd, h3⟩
  | false => exact (renc_no r D1 A1 E1 F1 dn1 dc1 an1 ac1 en1 ec1 fn1 fc1 w h hn hok).mono fun e w' ⟨h1, h2⟩ => ⟨none, 0, 0, h1, Reads.none_, h2⟩
theorem dec_both (bs : LB) (s : RQ) (hs : (decP bs).getD (zQ 0) = s) (k : Int) (hk : (if (decP bs).isSome then (0 : Int) else 5) = k) (A : Option Addr) (n c : Nat) (w : World) (hr : Rd w A n bs) (hn : n ≤ 100000) (hc : n ≤ c) : Calls Try.prog 11 #[.slice A n c] w fun e w' => ∃ D2 dn2 dc2 A2 an2 ac2 E2 en2 ec2 F2 fn2 fc2, e = .returned (.tuple #[.agg #[.int .i64 s.op, .string ⟨s.p.toArray⟩, .string ⟨s.p2.toArray⟩, .int .i64 s.h, .int .i64 s.n, .int .i64 s.fl, .slice D2 dn2 dc2, .slice A2 an2 ac2, .slice E2 en2 ec2, .slice F2 fn2 fc2], .int .i64 k]) ∧ RdQ w' s D2 A2 E2 F2 dn2 dc2 an2 ac2 en2 ec2 fn2 fc2 ∧ Below w.heap.size w w' :=
  (dec_any bs A n c w hr hn hc).mono fun e w' h => by
    obtain ⟨D, dn, dc, B, bn, bc, E, en, ec, F, fn, fc, h1, h2, h3, h4, h5, h6⟩ := h
    rw [hs] at h1 h2 h3 h4 h5
    rw [hk] at h1
    exact ⟨D, dn, dc, B, bn, bc, E, en, ec, F, fn, fc, h1, ⟨Reads.of_own h2, Reads.of_own h3, Reads.of_own h4, Reads.of_own h5⟩, h6⟩
theorem rdec_both (bs : LB) (s : RQ) (hs : (decP bs).getD (zQ 0) = s) (k : Int) (hk : (if (decP bs).isSome then (0 : Int) else 5) = k) (A : Option Addr) (n c : Nat) (w : World) (hr : Rd w A n bs) (hn : n ≤ 100000) (hc : n ≤ c) : Calls Try.prog 12 #[.slice A n c] w fun e w' => ∃ D3 dn3 dc3 A3 an3 ac3 E3 en3 ec3 F3 fn3 fc3, e = .returned (.tuple #[.agg #[.int .i64 s.op, .string ⟨s.p.toArray⟩, .string ⟨s.p2.toArray⟩, .int .i64 s.h, .int .i64 s.n, .int .i64 s.fl, .slice D3 dn3 dc3, .slice A3 an3 ac3, .slice E3 en3 ec3, .slice F3 fn3 fc3], .int .i64 k]) ∧ RdQ w' s D3 A3 E3 F3 dn3 dc3 an3 ac3 en3 ec3 fn3 fc3 ∧ Below w.heap.size w w' :=
  (rdec_any bs A n c w hr hn hc).mono fun e w' h => by
    obtain ⟨D, dn, dc, B, bn, bc, E, en, ec, F, fn, fc, h1, h2, h6⟩ := h
    rw [hs] at h1 h2
    rw [hk] at h1
    exact ⟨D, dn, dc, B, bn, bc, E, en, ec, F, fn, fc, h1, h2, h6⟩
theorem dec_len {bs : LB} {s : RQ} (hs : (decP bs).getD (zQ 0) = s) : s.args.length ≤ 16 ∧ s.env.length ≤ 32 ∧ s.fds.length ≤ 3 := by
  cases hd : decP bs with
  | none => rw [hd] at hs; subst hs; exact ⟨by simp [zQ], by simp [zQ], by simp [zQ]⟩
  | some q =>
    rw [hd] at hs
    obtain rfl : q = s := hs
    have h := ok_small (dec_enc hd).1
    exact ⟨h.2.2.2.2.2.2.2.1.1, h.2.2.2.2.2.2.2.2.1.1, h.2.2.2.2.2.2.2.2.2.1⟩
set_option maxRecDepth 100000 in
set_option maxHeartbeats 16000000 in
theorem requests_any (r : RQ) (D1 A1 E1 F1 : Option Addr) (dn1 dc1 an1 ac1 en1 ec1 fn1 fc1 : Nat) (B : Option Addr) (m k : Nat) (bs : LB) (op : Int) (w : World) (h : RdQ w r D1 A1 E1 F1 dn1 dc1 an1 ac1 en1 ec1 fn1 fc1) (hB : Rd w B m bs) (hmk : m ≤ k) (ho : i64ok r.op) :
    Calls Try.prog 3 #[r.v D1 A1 E1 F1 dn1 dc1 an1 ac1 en1 ec1 fn1 fc1, .slice B m k, .int .i64 op] w fun e w' => e = .returned (.bool true) ∧ Below w.heap.size w w' := by
  have hb := (Below.refl w.heap.size w).alloc (Nat.le_refl _) (.cells #[.int .i64 r.op, .string ⟨r.p.toArray⟩, .string ⟨r.p2.toArray⟩, .int .i64 r.h, .int .i64 r.n, .int .i64 r.fl, .slice D1 dn1 dc1, .slice A1 an1 ac1, .slice E1 en1 ec1, .slice F1 fn1 fc1] 26)
  have HB := hide hb
  have HK := hide (Blk.new w 26 #[.int .i64 r.op, .string ⟨r.p.toArray⟩, .string ⟨r.p2.toArray⟩, .int .i64 r.h, .int .i64 r.n, .int .i64 r.fl, .slice D1 dn1 dc1, .slice A1 an1 ac1, .slice E1 en1 ec1, .slice F1 fn1 fc1])
  have HR := hide (h.below hb)
  have HX := hide (rdb hB hb)
  have hl := HK.out.lt
  have XS := hide (small_any r D1 A1 E1 F1 dn1 dc1 an1 ac1 en1 ec1 fn1 fc1 _ HR.out)
  have HO := hide ho
  clear h hB hb ho
  unfold RQ.v at XS ⊢
  obtain ⟨x0, x1, x2, x3, x4, x5, x6, x7, x8, x9⟩ := blk10 HK.out
  go_enter Try.func3, Try.ntmps3
  go_wp2_with fail
  refine XS.out.mono ?_
  rintro e w1 ⟨s, rfl, hs, hb⟩
  have HS := hide hs
  replace HB := hide (below_more HB.out (Nat.le_refl _) hb)
  replace HK := hide (HK.out.below hb hl)
  replace HR := hide (HR.out.below hb)
  replace HX := hide (rdb HX.out hb)
  clear hs hb XS x0 x1 x2 x3 x4 x5 x6 x7 x8 x9 hl
  cases s with
  | false =>
    go_wp2_with fail
    refine (heads_any _).mono ?_
    rintro e w2 ⟨rfl, hb⟩
    replace HB := hide (below_more HB.out (Nat.le_refl _) hb)
    clear hb
    go_wp2_with fail
    go_ret
    exact ⟨rfl, HB.out⟩
  | true =>
    have HN := hide (HS.out rfl)
    clear HS
    by_cases hm : (6000 : Int) < (m : Int)
    · go_wp2_with fail
      refine (heads_any _).mono ?_
      rintro e w2 ⟨rfl, hb⟩
      replace HB := hide (below_more HB.out (Nat.le_refl _) hb)
      clear hb
      go_wp2_with fail
      go_ret
      exact ⟨rfl, HB.out⟩
    · have hl := HK.out.lt
      obtain ⟨x0, x1, x2, x3, x4, x5, x6, x7, x8, x9⟩ := blk10 HK.out
      have XE := hide (enc_both r D1 A1 E1 F1 dn1 dc1 an1 ac1 en1 ec1 fn1 fc1 w1 HR.out HO.out (by have := HN.out; omega))
      have XE2 := hide (fun W h => renc_both r D1 A1 E1 F1 dn1 dc1 an1 ac1 en1 ec1 fn1 fc1 W h (by have := HN.out; omega))
      generalize encE r = xs at *
      generalize encK r = ke at *
      go_wp2_with fail
      refine XE.out.mono ?_
      rintro e w2 ⟨A5, n5, c5, rfl, hR5, hb⟩
      have H5 := hide hR5
      replace HB := hide (below_more HB.out (Nat.le_refl _) hb)
      replace HK := hide (HK.out.below hb hl)
      replace HR := hide (HR.out.below hb)
      replace HX := hide (rdb HX.out hb)
      clear hb hR5 XE x0 x1 x2 x3 x4 x5 x6 x7 x8 x9 hl
      have hl := HK.out.lt
      obtain ⟨x0, x1, x2, x3, x4, x5, x6, x7, x8, x9⟩ := blk10 HK.out
      have XE3 := hide (XE2.out w2 HR.out)
      clear XE2
      go_wp2_with fail
      refine XE3.out.mono ?_
      rintro e w3 ⟨A6, n6, c6, rfl, hR6, hb⟩
      have H6 := hide hR6
      replace H5 := hide (rdb H5.out hb)
      replace HB := hide (below_more HB.out (Nat.le_refl _) hb)
      replace HK := hide (HK.out.below hb hl)
      replace HR := hide (HR.out.below hb)
      replace HX := hide (rdb HX.out hb)
      clear hb hR6 XE3 x0 x1 x2 x3 x4 x5 x6 x7 x8 x9 hl
      obtain ⟨s, hs⟩ : ∃ s, (decP bs).getD (zQ 0) = s := ⟨_, rfl⟩
      obtain ⟨kd, hkd⟩ : ∃ kd : Int, (if (decP bs).isSome then (0 : Int) else 5) = kd := ⟨_, rfl⟩
      have HSL := hide (dec_len hs)
      have XD := hide (dec_both bs s hs kd hkd B m k w3 HX.out (by omega) hmk)
      have XD2 := hide (fun W h => rdec_both bs s hs kd hkd B m k W h (by omega) hmk)
      clear hs hkd
      go_wp2_with fail
      refine XD.out.mono ?_
      rintro e w4 ⟨D2, dn2, dc2, A2, an2, ac2, E2, en2, ec2, F2, fn2, fc2, rfl, hR2, hb⟩
      have ba := (Below.refl w4.heap.size w4).alloc (Nat.le_refl _) (.cells #[.int .i64 s.op, .string ⟨s.p.toArray⟩, .string ⟨s.p2.toArray⟩, .int .i64 s.h, .int .i64 s.n, .int .i64 s.fl, .slice D2 dn2 dc2, .slice A2 an2 ac2, .slice E2 en2 ec2, .slice F2 fn2 fc2] 26)
      have hb2 := below_more hb (Nat.le_refl _) ba
      have HR2 := hide (hR2.below ba)
      have HK2 := hide (Blk.new w4 26 #[.int .i64 s.op, .string ⟨s.p.toArray⟩, .string ⟨s.p2.toArray⟩, .int .i64 s.h, .int .i64 s.n, .int .i64 s.fl, .slice D2 dn2 dc2, .slice A2 an2 ac2, .slice E2 en2 ec2, .slice F2 fn2 fc2])
      replace H5 := hide (rdb H5.out hb2)
      replace H6 := hide (rdb H6.out hb2)
      replace HB := hide (below_more HB.out (Nat.le_refl _) hb2)
      replace HK := hide (HK.out.below hb2 HK.out.lt)
      replace HR := hide (HR.out.below hb2)
      replace HX := hide (rdb HX.out hb2)
      have XD3 := hide (XD2.out _ HX.out)
      clear hb hb2 ba hR2 XD XD2
      go_wp2_with fail
      refine XD3.out.mono ?_
      rintro e w5 ⟨D3, dn3, dc3, A3, an3, ac3, E3, en3, ec3, F3, fn3, fc3, rfl, hR3, hb⟩
      have ba := (Below.refl w5.heap.size w5).alloc (Nat.le_refl _) (.cells #[.int .i64 s.op, .string ⟨s.p.toArray⟩, .string ⟨s.p2.toArray⟩, .int .i64 s.h, .int .i64 s.n, .int .i64 s.fl, .slice D3 dn3 dc3, .slice A3 an3 ac3, .slice E3 en3 ec3, .slice F3 fn3 fc3] 26)
      have hb2 := below_more hb (Nat.le_refl _) ba
      have HR3 := hide (hR3.below ba)
      have HK3 := hide (Blk.new w5 26 #[.int .i64 s.op, .string ⟨s.p.toArray⟩, .string ⟨s.p2.toArray⟩, .int .i64 s.h, .int .i64 s.n, .int .i64 s.fl, .slice D3 dn3 dc3, .slice A3 an3 ac3, .slice E3 en3 ec3, .slice F3 fn3 fc3])
      replace H5 := hide (rdb H5.out hb2)
      replace H6 := hide (rdb H6.out hb2)
      replace HB := hide (below_more HB.out (Nat.le_refl _) hb2)
      replace HK := hide (HK.out.below hb2 HK.out.lt)
      replace HR := hide (HR.out.below hb2)
      replace HR2 := hide (HR2.out.below hb2)
      have hl4 := HK2.out.lt
      replace HK2 := hide (HK2.out.below hb2 hl4)
      clear hb hb2 ba hR3 XD3 HX hl4
      go_upto_region 7 with (fail)
      generalize w5.alloc (.cells #[.int .i64 s.op, .string ⟨s.p.toArray⟩, .string ⟨s.p2.toArray⟩, .int .i64 s.h, .int .i64 s.n, .int .i64 s.fl, .slice D3 dn3 dc3, .slice A3 an3 ac3, .slice E3 en3 ec3, .slice F3 fn3 fc3] 26) = W at *
      have hg1 := HK.out.lt
      have hg2 := HK2.out.lt
      have hg3 := HK3.out.lt
      have HBW := hide HB.out.size
      have allS : Hid (∀ V, Below W.heap.size W V → (V.cell? ⟨w.heap.size, 0, none⟩ = some (.int .i64 r.op) ∧ V.cell? ⟨w.heap.size, 1, none⟩ = some (.string ⟨r.p.toArray⟩) ∧ V.cell? ⟨w.heap.size, 2, none⟩ = some (.string ⟨r.p2.toArray⟩) ∧ V.cell? ⟨w.heap.size, 3, none⟩ = some (.int .i64 r.h) ∧ V.cell? ⟨w.heap.size, 4, none⟩ = some (.int .i64 r.n) ∧ V.cell? ⟨w.heap.size, 5, none⟩ = some (.int .i64 r.fl) ∧ V.cell? ⟨w.heap.size, 6, none⟩ = some (.slice D1 dn1 dc1) ∧ V.cell? ⟨w.heap.size, 7, none⟩ = some (.slice A1 an1 ac1) ∧ V.cell? ⟨w.heap.size, 8, none⟩ = some (.slice E1 en1 ec1) ∧ V.cell? ⟨w.heap.size, 9, none⟩ = some (.slice F1 fn1 fc1)) ∧ (V.cell? ⟨w4.heap.size, 0, none⟩ = some (.int .i64 s.op) ∧ V.cell? ⟨w4.heap.size, 1, none⟩ = some (.string ⟨s.p.toArray⟩) ∧ V.cell? ⟨w4.heap.size, 2, none⟩ = some (.string ⟨s.p2.toArray⟩) ∧ V.cell? ⟨w4.heap.size, 3, none⟩ = some (.int .i64 s.h) ∧ V.cell? ⟨w4.heap.size, 4, none⟩ = some (.int .i64 s.n) ∧ V.cell? ⟨w4.heap.size, 5, none⟩ = some (.int .i64 s.fl) ∧ V.cell? ⟨w4.heap.size, 6, none⟩ = some (.slice D2 dn2 dc2) ∧ V.cell? ⟨w4.heap.size, 7, none⟩ = some (.slice A2 an2 ac2) ∧ V.cell? ⟨w4.heap.size, 8, none⟩ = some (.slice E2 en2 ec2) ∧ V.cell? ⟨w4.heap.size, 9, none⟩ = some (.slice F2 fn2 fc2)) ∧ (V.cell? ⟨w5.heap.size, 0, none⟩ = some (.int .i64 s.op) ∧ V.cell? ⟨w5.heap.size, 1, none⟩ = some (.string ⟨s.p.toArray⟩) ∧ V.cell? ⟨w5.heap.size, 2, none⟩ = some (.string ⟨s.p2.toArray⟩) ∧ V.cell? ⟨w5.heap.size, 3, none⟩ = some (.int .i64 s.h) ∧ V.cell? ⟨w5.heap.size, 4, none⟩ = some (.int .i64 s.n) ∧ V.cell? ⟨w5.heap.size, 5, none⟩ = some (.int .i64 s.fl) ∧ V.cell? ⟨w5.heap.size, 6, none⟩ = some (.slice D3 dn3 dc3) ∧ V.cell? ⟨w5.heap.size, 7, none⟩ = some (.slice A3 an3 ac3) ∧ V.cell? ⟨w5.heap.size, 8, none⟩ = some (.slice E3 en3 ec3) ∧ V.cell? ⟨w5.heap.size, 9, none⟩ = some (.slice F3 fn3 fc3))) := hide (fun V hV => ⟨blk10 (HK.out.below hV hg1), blk10 (HK2.out.below hV hg2), blk10 (HK3.out.below hV hg3)⟩)
      have X13 : Hid (∀ V, Below W.heap.size W V → Calls Try.prog 13 #[.slice A5 n5 c5, .slice A6 n6 c6] V fun e w' => e = .returned (.bool true) ∧ V = w') := hide (fun V hV => by
        have h := same_any A5 A6 n5 n6 c5 c6 xs xs V _ _ (rdb H5.out hV) (rdb H6.out hV)
        rwa [show (xs == xs) = true by simp] at h)
      have X14 : Hid (∀ V, Below W.heap.size W V → Calls Try.prog 14 #[.agg #[.int .i64 s.op, .string ⟨s.p.toArray⟩, .string ⟨s.p2.toArray⟩, .int .i64 s.h, .int .i64 s.n, .int .i64 s.fl, .slice D2 dn2 dc2, .slice A2 an2 ac2, .slice E2 en2 ec2, .slice F2 fn2 fc2], .agg #[.int .i64 s.op, .string ⟨s.p.toArray⟩, .string ⟨s.p2.toArray⟩, .int .i64 s.h, .int .i64 s.n, .int .i64 s.fl, .slice D3 dn3 dc3, .slice A3 an3 ac3, .slice E3 en3 ec3, .slice F3 fn3 fc3]] V fun e w' => e = .returned (.bool true) ∧ Below V.heap.size V w') := hide (fun V hV => sameq_eq s D2 A2 E2 F2 D3 A3 E3 F3 _ _ _ _ _ _ _ _ _ _ _ _ _ _ _ _ V (HR2.out.below hV) (HR3.out.below hV) (by
        have e1 := rd_len HR2.out.a
        have e2 := rd_len HR2.out.e
        have e3 := ri_len HR2.out.f
        have e4 := HSL.out
        omega))
      have X15 : Hid (∀ V, Below W.heap.size W V → Calls Try.prog 15 #[.agg #[.int .i64 r.op, .string ⟨r.p.toArray⟩, .string ⟨r.p2.toArray⟩, .int .i64 r.h, .int .i64 r.n, .int .i64 r.fl, .slice D1 dn1 dc1, .slice A1 an1 ac1, .slice E1 en1 ec1, .slice F1 fn1 fc1]] V fun e w' => e = .returned (.bool r.ok) ∧ Below V.heap.size V w') := hide (fun V hV => chkV r D1 A1 E1 F1 dn1 dc1 an1 ac1 en1 ec1 fn1 fc1 V (HR.out.below hV) HO.out (by have := HN.out; omega) r.ok rfl)
      have X16 : Hid (∀ V, Below W.heap.size W V → Calls Try.prog 16 #[.agg #[.int .i64 r.op, .string ⟨r.p.toArray⟩, .string ⟨r.p2.toArray⟩, .int .i64 r.h, .int .i64 r.n, .int .i64 r.fl, .slice D1 dn1 dc1, .slice A1 an1 ac1, .slice E1 en1 ec1, .slice F1 fn1 fc1]] V fun e w' => e = .returned (.bool r.ok) ∧ Below V.heap.size V w') := hide (fun V hV => rcheck_any r D1 A1 E1 F1 dn1 dc1 an1 ac1 en1 ec1 fn1 fc1 V (HR.out.below hV) (by have := HN.out; omega))
      generalize r.ok = okb at *
      have X17 := hide (fun V => gov_any op V)
      have X18 := hide (fun V => rgov_any op V)
      generalize govP op = gvb at *
      have X8 := hide (fun V => heads_any V)
      have kW := hide (Below.refl W.heap.size W)
      clear HR HR2 HR3 H5 H6 HO HN HSL
      go_region_held3 (fun V => (V.cell? ⟨w.heap.size, 0, none⟩ = some (.int .i64 r.op) ∧ V.cell? ⟨w.heap.size, 1, none⟩ = some (.string ⟨r.p.toArray⟩) ∧ V.cell? ⟨w.heap.size, 2, none⟩ = some (.string ⟨r.p2.toArray⟩) ∧ V.cell? ⟨w.heap.size, 3, none⟩ = some (.int .i64 r.h) ∧ V.cell? ⟨w.heap.size, 4, none⟩ = some (.int .i64 r.n) ∧ V.cell? ⟨w.heap.size, 5, none⟩ = some (.int .i64 r.fl) ∧ V.cell? ⟨w.heap.size, 6, none⟩ = some (.slice D1 dn1 dc1) ∧ V.cell? ⟨w.heap.size, 7, none⟩ = some (.slice A1 an1 ac1) ∧ V.cell? ⟨w.heap.size, 8, none⟩ = some (.slice E1 en1 ec1) ∧ V.cell? ⟨w.heap.size, 9, none⟩ = some (.slice F1 fn1 fc1)) ∧ (V.cell? ⟨w4.heap.size, 0, none⟩ = some (.int .i64 s.op) ∧ V.cell? ⟨w4.heap.size, 1, none⟩ = some (.string ⟨s.p.toArray⟩) ∧ V.cell? ⟨w4.heap.size, 2, none⟩ = some (.string ⟨s.p2.toArray⟩) ∧ V.cell? ⟨w4.heap.size, 3, none⟩ = some (.int .i64 s.h) ∧ V.cell? ⟨w4.heap.size, 4, none⟩ = some (.int .i64 s.n) ∧ V.cell? ⟨w4.heap.size, 5, none⟩ = some (.int .i64 s.fl) ∧ V.cell? ⟨w4.heap.size, 6, none⟩ = some (.slice D2 dn2 dc2) ∧ V.cell? ⟨w4.heap.size, 7, none⟩ = some (.slice A2 an2 ac2) ∧ V.cell? ⟨w4.heap.size, 8, none⟩ = some (.slice E2 en2 ec2) ∧ V.cell? ⟨w4.heap.size, 9, none⟩ = some (.slice F2 fn2 fc2)) ∧ (V.cell? ⟨w5.heap.size, 0, none⟩ = some (.int .i64 s.op) ∧ V.cell? ⟨w5.heap.size, 1, none⟩ = some (.string ⟨s.p.toArray⟩) ∧ V.cell? ⟨w5.heap.size, 2, none⟩ = some (.string ⟨s.p2.toArray⟩) ∧ V.cell? ⟨w5.heap.size, 3, none⟩ = some (.int .i64 s.h) ∧ V.cell? ⟨w5.heap.size, 4, none⟩ = some (.int .i64 s.n) ∧ V.cell? ⟨w5.heap.size, 5, none⟩ = some (.int .i64 s.fl) ∧ V.cell? ⟨w5.heap.size, 6, none⟩ = some (.slice D3 dn3 dc3) ∧ V.cell? ⟨w5.heap.size, 7, none⟩ = some (.slice A3 an3 ac3) ∧ V.cell? ⟨w5.heap.size, 8, none⟩ = some (.slice E3 en3 ec3) ∧ V.cell? ⟨w5.heap.size, 9, none⟩ = some (.slice F3 fn3 fc3)))
        (first | with_reducible exact allS.out _ (Below.drew kW.out) | with_reducible exact allS.out _ kW.out)
        (first
          | (go_at_call 13; first
              | (with_reducible refine (X13.out _ kW.out).mono ?_
                 rintro e wx ⟨rfl, rfl⟩)
              | (with_reducible refine (X13.out _ (Below.drew kW.out)).mono ?_
                 rintro e wx ⟨rfl, rfl⟩))
          | (go_at_call 14; first
              | (with_reducible refine (X14.out _ kW.out).mono ?_
                 rintro e wx ⟨rfl, kx⟩
                 replace kW := hide (below_more kW.out (Nat.le_refl _) kx)
                 clear kx)
              | (with_reducible refine (X14.out _ (Below.drew kW.out)).mono ?_
                 rintro e wx ⟨rfl, kx⟩
                 replace kW := hide (below_more (Below.drew kW.out) (Nat.le_refl _) kx)
                 clear kx))
          | (go_at_call 15; with_reducible refine (X15.out _ kW.out).mono ?_
             rintro e wx ⟨rfl, kx⟩
             replace kW := hide (below_more kW.out (Nat.le_refl _) kx)
             clear kx)
          | (go_at_call 16; with_reducible refine (X16.out _ kW.out).mono ?_
             rintro e wx ⟨rfl, kx⟩
             replace kW := hide (below_more kW.out (Nat.le_refl _) kx)
             clear kx)
          | (go_at_call 17; with_reducible refine (X17.out _).mono ?_
             rintro e wx ⟨rfl, rfl⟩)
          | (go_at_call 18; with_reducible refine (X18.out _).mono ?_
             rintro e wx ⟨rfl, rfl⟩)
          | (go_at_call 8; with_reducible refine (X8.out _).mono ?_
             rintro e wx ⟨rfl, kx⟩
             replace kW := hide (below_more kW.out (Nat.le_refl _) kx)
             clear kx))
      all_goals
        go_wp2_with fail
        go_ret
        exact ⟨by first | rfl | simp, HB.out.trans (kW.out.mono HBW.out)⟩
end Go.Proofs.Ytedacfjkbfgikaa
namespace Go.Proofs.Ytedacfjkbfgikaa
open Go.ChangeShapes Go.WideShapes Go.ChangeAt Go.RowKit
open Go.ChangeMaps (open_string shut_string)
set_option linter.unusedVariables false

theorem i64R_of {x : Int} (h : (Lit.int .i64 x).wf = true) : -9223372036854775808 ≤ x ∧ x ≤ 9223372036854775807 := by
  have e1 : IntKind.i64.min = -9223372036854775808 := rfl
  have e2 : IntKind.i64.max = 9223372036854775807 := rfl
  simp only [Lit.wf, e1, e2, Bool.and_eq_true, decide_eq_true_eq] at h
  exact h
theorem u64_of {x : Int} (h : (Lit.int .u64 x).wf = true) : ∃ n : Nat, x = n ∧ n < 18446744073709551616 := by
  have e1 : IntKind.u64.min = 0 := rfl
  have e2 : IntKind.u64.max = 18446744073709551615 := rfl
  simp only [Lit.wf, e1, e2, Bool.and_eq_true, decide_eq_true_eq] at h
  exact ⟨x.toNat, by omega, by omega⟩
theorem own : ownKnob Try.prog.godebug = none := by kernel_rfl
theorem laidOut : laidOutB Try.prog = true := by kernel_rfl

/-- A slice of bytes that came in. -/
theorem rd_of_ints {W : World} {a : Addr} {len : Nat} {zs : List Int} (hl : len ≤ zs.length) (hc : ∀ i, i < zs.length → W.cell? (a.add i) = some (.int .u8 (zs.getD i 0))) (hw : ∀ n ∈ zs, (Lit.int .u8 n).wf = true) :
    Rd W (some a) len ((zs.take len).map fun z => UInt8.ofNat z.toNat) := by
  refine ⟨by simp [bv]; omega, fun hn => ⟨a, rfl, ?_, ?_⟩⟩
  · have := World.block_lt_of_cell? W _ (hc 0 (by omega))
    rwa [block_of_add] at this
  · intro j u hj
    have hjl : j < len := by
      rcases Nat.lt_or_ge j len with h | h
      · exact h
      · rw [List.getElem?_eq_none (by simp [bv]; omega)] at hj; cases hj
    have hwj := hw (zs.getD j 0) (by rw [List.getD_eq_getElem?_getD, List.getElem?_eq_getElem (by omega)]; exact List.getElem_mem _)
    rw [hc j (by omega), ← hj]
    have hz : 0 ≤ zs.getD j 0 ∧ zs.getD j 0 ≤ 255 := by
      have e1 : IntKind.u8.min = 0 := rfl
      have e2 : IntKind.u8.max = 255 := rfl
      simp only [Lit.wf, e1, e2, Bool.and_eq_true, decide_eq_true_eq] at hwj
      exact hwj
    have hg : zs[j]? = some (zs.getD j 0) := by rw [List.getD_eq_getElem?_getD, List.getElem?_eq_getElem (by omega)]; rfl
    generalize zs.getD j 0 = z at *
    simp only [bv, List.map_map, List.getElem?_map, List.getElem?_take, hjl, if_true, hg, Option.map_some, Function.comp]
    congr 2
    simp
    omega
theorem bytes_of_trod {H : Type} {enc : TypeId × Value → H} {W : World} {base : Nat} {spare : Nat → Bool} {held : Bool} {t e : TypeId} {fuel : Nat} {v : Value} {x : DataW H × List MemPlace}
    (ht : Try.prog.underlying t = some (.slice e)) (he : Try.prog.underlying e = some (.int .u8)) (hc : Try.prog.cellsOf e = 1)
    (hf : DataW.trod enc Try.prog W base spare held fuel t [v] = some x) : ∃ A n c bs, v = .slice A n c ∧ Rd W A n bs ∧ n ≤ c ∧ c ≤ maxLen := by
  rcases open_ints ht he hc hf with ⟨hcs, _⟩ | ⟨y, l, cc, zs, hcs, _, hl, hm, hz, _, hcell, hwz⟩
  · injection hcs with hcs
    exact ⟨none, 0, 0, [], hcs, Reads.none_, Nat.le_refl _, Nat.zero_le _⟩
  · injection hcs with hcs
    refine ⟨_, _, _, _, hcs, rd_of_ints (zs := zs) ?_ hcell hwz, hl, hm⟩
    rw [hz]
    split <;> omega
theorem bytes_of {H : Type} {enc : TypeId × Value → H} {W : World} {base : Nat} {spare : Nat → Bool} {held : Bool} {t e : TypeId} {A : Option Addr} {n c : Nat} {d : DataW H} {p : List MemPlace}
    (ht : Try.prog.underlying t = some (.slice e)) (he : Try.prog.underlying e = some (.int .u8)) (hc : Try.prog.cellsOf e = 1)
    (h : DataW.Trod enc Try.prog W base spare held t (.slice A n c) d p) : ∃ bs, Rd W A n bs ∧ n ≤ c ∧ c ≤ maxLen := by
  obtain ⟨fuel, hf⟩ := h
  simp only [Value.cells] at hf
  obtain ⟨A', n', c', bs, hv, h1, h2, h3⟩ := bytes_of_trod ht he hc hf
  injection hv with e1 e2 e3
  subst e1; subst e2; subst e3
  exact ⟨bs, h1, h2, h3⟩
end Go.Proofs.Ytedacfjkbfgikaa
namespace Go.Proofs.Ytedacfjkbfgikaa
open Go.ChangeShapes Go.WideShapes Go.ChangeAt Go.RowKit
open Go.Deep (open_strs)
set_option linter.unusedVariables false
theorem cStr : Try.prog.cellsOf 9 = 1 := by kernel_rfl
theorem rd_of_strs {W : World} {a : Addr} {len m : Nat} {Sx : Nat → ByteArray} (hl : len ≤ m) (hc : ∀ i, i < m → W.cell? (a.add i) = some (.string (Sx i)) ∧ (Sx i).size ≤ maxLen) :
    Reads W W.heap.size 1 (some a) len (svs ((List.range len).map fun i => (Sx i).data.toList)) ∧ ∀ k ∈ (List.range len).map (fun i => (Sx i).data.toList), k.length ≤ maxLen := by
  refine ⟨⟨by simp [svs], fun hn => ⟨a, rfl, ?_, ?_⟩⟩, ?_⟩
  · have := World.block_lt_of_cell? W _ (hc 0 (by omega)).1
    rwa [block_of_add] at this
  · intro j u hj
    have hjl : j < len := by
      rcases Nat.lt_or_ge j len with h | h
      · exact h
      · rw [List.getElem?_eq_none (by simp [svs]; omega)] at hj; cases hj
    rw [(hc j (by omega)).1, ← hj]
    simp [svs, sv, hjl]
  · intro k hk
    simp only [List.mem_map, List.mem_range] at hk
    obtain ⟨i, hi, rfl⟩ := hk
    have := (hc i (by omega)).2
    rw [Array.length_toList]
    exact this
set_option maxRecDepth 100000 in
theorem strs_of {H : Type} {enc : TypeId × Value → H} {W : World} {base base' : Nat} {spare : Nat → Bool} {held : Bool} {v : Value} {d : DataW H} {p : List MemPlace}
    (hv : Value.okWide Try.prog W .any base' 23 v) (h : DataW.Trod enc Try.prog W base spare held 23 v d p) :
    ∃ A n c ks, v = .slice A n c ∧ Reads W W.heap.size 1 A n (svs ks) ∧ n ≤ c ∧ c ≤ maxLen ∧ (∀ k ∈ ks, k.length ≤ maxLen) := by
  obtain ⟨A, n, c, rfl⟩ := okWide_slice Try.underlying23 hv
  obtain ⟨fuel, hf⟩ := h
  rcases open_strs Try.underlying23 Try.underlying9 cStr hf with ⟨hcs, _⟩ | ⟨x, l, cc, m, Sx, hcs, _, hl, hm, hmm, hd, hcell⟩
  · simp [Value.cells] at hcs
    obtain ⟨rfl, rfl, rfl⟩ := hcs
    exact ⟨none, 0, 0, [], rfl, Reads.none_, Nat.le_refl _, Nat.zero_le _, (fun x h => by cases h)⟩
  · simp [Value.cells] at hcs
    obtain ⟨rfl, rfl, rfl⟩ := hcs
    have hlm : n ≤ m := by rw [hmm]; split <;> omega
    obtain ⟨h1, h2⟩ := rd_of_strs (W := W) hlm hcell
    exact ⟨some x, n, c, _, rfl, h1, hl, hm, h2⟩
theorem cInt : Try.prog.cellsOf 3 = 1 := by kernel_rfl
set_option maxRecDepth 100000 in
theorem ints_of {H : Type} {enc : TypeId × Value → H} {W : World} {base base' : Nat} {spare : Nat → Bool} {held : Bool} {v : Value} {d : DataW H} {p : List MemPlace}
    (hv : Value.okWide Try.prog W .any base' 24 v) (h : DataW.Trod enc Try.prog W base spare held 24 v d p) :
    ∃ A n c zs, v = .slice A n c ∧ Reads W W.heap.size 1 A n (List.map (fun z => Value.int .i64 z) zs) ∧ n ≤ c ∧ c ≤ maxLen ∧ (∀ z ∈ zs, (Lit.int .i64 z).wf = true) := by
  obtain ⟨A, n, c, rfl⟩ := okWide_slice Try.underlying24 hv
  obtain ⟨fuel, hf⟩ := h
  rcases open_ints Try.underlying24 Try.underlying3 cInt hf with ⟨hcs, _⟩ | ⟨x, l, cc, zs, hcs, _, hl, hm, hz, hd, hcell, hwz⟩
  · simp [Value.cells] at hcs
    obtain ⟨rfl, rfl, rfl⟩ := hcs
    exact ⟨none, 0, 0, [], rfl, Reads.none_, Nat.le_refl _, Nat.zero_le _, (fun x h => by cases h)⟩
  · simp [Value.cells] at hcs
    obtain ⟨rfl, rfl, rfl⟩ := hcs
    have hlz : n ≤ zs.length := by rw [hz]; split <;> omega
    refine ⟨some x, n, c, zs.take n, rfl, ⟨by simp; omega, fun hn => ⟨x, rfl, ?_, ?_⟩⟩, hl, hm, fun z h => hwz z (List.mem_of_mem_take h)⟩
    · have := World.block_lt_of_cell? W _ (hcell 0 (by omega))
      rwa [block_of_add] at this
    · intro j u hj
      have hjl : j < n := by
        rcases Nat.lt_or_ge j n with h | h
        · exact h
        · rw [List.getElem?_eq_none (by simp; omega)] at hj; cases hj
      have hg : zs[j]? = some (zs.getD j 0) := by rw [List.getD_eq_getElem?_getD, List.getElem?_eq_getElem (by omega)]; rfl
      rw [hcell j (by omega), ← hj]
      rw [List.getElem?_map, List.getElem?_take, if_pos hjl, hg]; rfl
end Go.Proofs.Ytedacfjkbfgikaa
namespace Go.Proofs.Ytedacfjkbfgikaa
open Go.ChangeShapes Go.WideShapes Go.ChangeAt Go.RowKit
open Go.Deep (open_strs)
set_option linter.unusedVariables false
theorem strs_of_trod {H : Type} {enc : TypeId × Value → H} {W : World} {base : Nat} {spare : Nat → Bool} {held : Bool} {fuel : Nat} {v : Value} {x : DataW H × List MemPlace}
    (hf : DataW.trod enc Try.prog W base spare held fuel 23 [v] = some x) : ∃ A n c ks, v = .slice A n c ∧ Reads W W.heap.size 1 A n (svs ks) ∧ n ≤ c ∧ c ≤ maxLen := by
  rcases open_strs Try.underlying23 Try.underlying9 cStr hf with ⟨hcs, _⟩ | ⟨y, l, cc, m, Sx, hcs, _, hl, hm, hmm, hd, hcell⟩
  · injection hcs with hcs
    exact ⟨none, 0, 0, [], hcs, Reads.none_, Nat.le_refl _, Nat.zero_le _⟩
  · injection hcs with hcs
    have hlm : l ≤ m := by rw [hmm]; split <;> omega
    obtain ⟨h1, h2⟩ := rd_of_strs (W := W) hlm hcell
    exact ⟨some y, l, cc, _, hcs, h1, hl, hm⟩
theorem ints_of_trod {H : Type} {enc : TypeId × Value → H} {W : World} {base : Nat} {spare : Nat → Bool} {held : Bool} {fuel : Nat} {v : Value} {x : DataW H × List MemPlace}
    (hf : DataW.trod enc Try.prog W base spare held fuel 24 [v] = some x) : ∃ A n c zs, v = .slice A n c ∧ Reads W W.heap.size 1 A n (ivs zs) ∧ n ≤ c ∧ c ≤ maxLen := by
  rcases open_ints Try.underlying24 Try.underlying3 cInt hf with ⟨hcs, _⟩ | ⟨y, l, cc, zs, hcs, _, hl, hm, hz, hd, hcell, hwz⟩
  · injection hcs with hcs
    exact ⟨none, 0, 0, [], hcs, Reads.none_, Nat.le_refl _, Nat.zero_le _⟩
  · injection hcs with hcs
    have hlz : l ≤ zs.length := by rw [hz]; split <;> omega
    refine ⟨some y, l, cc, zs.take l, hcs, ⟨by simp [ivs]; omega, fun hn => ⟨y, rfl, ?_, ?_⟩⟩, hl, hm⟩
    · have := World.block_lt_of_cell? W _ (hcell 0 (by omega))
      rwa [block_of_add] at this
    · intro j u hj
      have hjl : j < l := by
        rcases Nat.lt_or_ge j l with h | h
        · exact h
        · rw [List.getElem?_eq_none (by simp [ivs]; omega)] at hj; cases hj
      have hg : zs[j]? = some (zs.getD j 0) := by rw [List.getD_eq_getElem?_getD, List.getElem?_eq_getElem (by omega)]; rfl
      rw [hcell j (by omega), ← hj]
      unfold ivs
      rw [List.getElem?_map, List.getElem?_take, if_pos hjl, hg]; rfl
set_option maxRecDepth 100000 in
theorem req_of {H : Type} {enc : TypeId × Value → H} {W : World} {base : Nat} {sp : Nat → Bool} {held : Bool} {v : Value} {d : DataW H} {p : List MemPlace}
    (hval : Value.okWide Try.prog W .any base 26 v) (h : DataW.Trod enc Try.prog W 0 sp held 26 v d p) :
    ∃ (r : RQ) (D A E F : Option Addr) (dn dc an ac en ec fn fc : Nat), v = r.v D A E F dn dc an ac en ec fn fc ∧ RdQ W r D A E F dn dc an ac en ec fn fc ∧ i64ok r.op := by
  obtain ⟨cells, rfl, hsize⟩ := okWide_struct Try.underlying26 hval
  have h5 : cells.size = 10 := hsize.trans (by kernel_rfl)
  obtain ⟨fuel, hf⟩ := h
  obtain ⟨xs, m, _, _, _, hxs, hat⟩ := DataW.trod_struct Try.underlying26 hf
  match cells, h5 with
  | ⟨[v0, v1, v2, v3, v4, v5, v6, v7, v8, v9]⟩, _ =>
    match xs, hxs with
    | [y0, y1, y2, y3, y4, y5, y6, y7, y8, y9], _ =>
      have f0 := hat 0 _ rfl
      have f1 := hat 1 _ rfl
      have f2 := hat 2 _ rfl
      have f3 := hat 3 _ rfl
      have f4 := hat 4 _ rfl
      have f5 := hat 5 _ rfl
      have f6 := hat 6 _ rfl
      have f7 := hat 7 _ rfl
      have f8 := hat 8 _ rfl
      have f9 := hat 9 _ rfl
      have k1 : Try.prog.cellsOf 22 = 1 := by kernel_rfl
      have k2 : Try.prog.cellsOf 3 = 1 := by kernel_rfl
      have k3 : Try.prog.cellsOf 23 = 1 := by kernel_rfl
      have k4 : Try.prog.cellsOf 24 = 1 := by kernel_rfl
      simp [Value.cells, k1, k2, k3, k4, cStr] at f0 f1 f2 f3 f4 f5 f6 f7 f8 f9
      obtain ⟨o, e0, _, wo⟩ := DataW.trod_int Try.underlying3 f0
      obtain ⟨s, e1, _, ws⟩ := DataW.trod_string Try.underlying9 f1
      obtain ⟨s2, e2, _, ws2⟩ := DataW.trod_string Try.underlying9 f2
      obtain ⟨hh, e3, _, wh⟩ := DataW.trod_int Try.underlying3 f3
      obtain ⟨n, e4, _, wn⟩ := DataW.trod_int Try.underlying3 f4
      obtain ⟨fl, e5, _, wf⟩ := DataW.trod_int Try.underlying3 f5
      injection e0 with e0
      injection e1 with e1
      injection e2 with e2
      injection e3 with e3
      injection e4 with e4
      injection e5 with e5
      subst e0; subst e1; subst e2; subst e3; subst e4; subst e5
      obtain ⟨D, dn, dc, dg, rfl, hr, hl, hm⟩ := bytes_of_trod Try.underlying22 Try.underlying5 (by kernel_rfl) f6
      obtain ⟨A, an, ac, ks, rfl, hr2, hl2, hm2⟩ := strs_of_trod f7
      obtain ⟨E, en, ec, ks2, rfl, hr3, hl3, hm3⟩ := strs_of_trod f8
      obtain ⟨F, fn, fc, zs, rfl, hr4, hl4, hm4⟩ := ints_of_trod f9
      exact ⟨⟨o, s.data.toList, s2.data.toList, hh, n, fl, dg, ks, ks2, zs⟩, D, A, E, F, dn, dc, an, ac, en, ec, fn, fc, rfl, ⟨hr, hr2, hr3, hr4⟩, i64R_of wo⟩
set_option maxRecDepth 100000 in
theorem rep_of {H : Type} {enc : TypeId × Value → H} {W : World} {base : Nat} {sp : Nat → Bool} {held : Bool} {v : Value} {d : DataW H} {p : List MemPlace}
    (hval : Value.okWide Try.prog W .any base 43 v) (h : DataW.Trod enc Try.prog W 0 sp held 43 v d p) :
    ∃ (r : RP) (D A : Option Addr) (dn dc an ac : Nat), v = r.v D A dn dc an ac ∧ Rd W D dn r.d ∧ Reads W W.heap.size 1 A an (svs r.names) ∧ i64ok r.err := by
  obtain ⟨cells, rfl, hsize⟩ := okWide_struct Try.underlying43 hval
  have h5 : cells.size = 6 := hsize.trans (by kernel_rfl)
  obtain ⟨fuel, hf⟩ := h
  obtain ⟨xs, m, _, _, _, hxs, hat⟩ := DataW.trod_struct Try.underlying43 hf
  match cells, h5 with
  | ⟨[v0, v1, v2, v3, v4, v5]⟩, _ =>
    match xs, hxs with
    | [y0, y1, y2, y3, y4, y5], _ =>
      have f0 := hat 0 _ rfl
      have f1 := hat 1 _ rfl
      have f2 := hat 2 _ rfl
      have f3 := hat 3 _ rfl
      have f4 := hat 4 _ rfl
      have f5 := hat 5 _ rfl
      have k1 : Try.prog.cellsOf 22 = 1 := by kernel_rfl
      have k2 : Try.prog.cellsOf 3 = 1 := by kernel_rfl
      have k3 : Try.prog.cellsOf 23 = 1 := by kernel_rfl
      have k4 : Try.prog.cellsOf 29 = 1 := by kernel_rfl
      simp [Value.cells, k1, k2, k3, k4] at f0 f1 f2 f3 f4 f5
      obtain ⟨o, e0, _, wo⟩ := DataW.trod_int Try.underlying29 f0
      obtain ⟨hh, e1, _, wh⟩ := DataW.trod_int Try.underlying3 f1
      obtain ⟨h2, e2, _, wh2⟩ := DataW.trod_int Try.underlying3 f2
      obtain ⟨n, e3, _, wn⟩ := DataW.trod_int Try.underlying3 f3
      injection e0 with e0
      injection e1 with e1
      injection e2 with e2
      injection e3 with e3
      subst e0; subst e1; subst e2; subst e3
      obtain ⟨D, dn, dc, dg, rfl, hr, hl, hm⟩ := bytes_of_trod Try.underlying22 Try.underlying5 (by kernel_rfl) f4
      obtain ⟨A, an, ac, ks, rfl, hr2, hl2, hm2⟩ := strs_of_trod f5
      exact ⟨⟨o, hh, h2, n, dg, ks⟩, D, A, dn, dc, an, ac, rfl, hr, hr2, i64R_of wo⟩
end Go.Proofs.Ytedacfjkbfgikaa
namespace Go.Proofs.Ytedacfjkbfgikaa
open Go.ChangeShapes Go.WideShapes Go.ChangeAt Go.RowKit
open Go.ChangeMaps (open_string shut_string)
set_option linter.unusedVariables false

set_option maxRecDepth 100000 in
theorem protoRequests_lifted (os : Os) (started : os.Started) (H : Type) (enc : TypeId × Value → H) :
    ReturnsInHanded {} Try.checked os 3 .any (Rows.protoRequestsSpec.pre6 enc Try.prog Try.f3 Rows.protoRequestsRow.domain false) (Rows.protoRequestsSpec.post enc Try.prog Try.f3 false true false false) := by
  refine returnsInHanded_of_change (C := Try.checked) own started (by kernel_rfl) Try.func3
    (ChangeSpec.witness6 (enc := enc) (C := Try.checked) false ⟨#[], #[.agg #[.int .i64 0, .string ⟨#[]⟩, .string ⟨#[]⟩, .int .i64 0, .int .i64 0, .int .i64 0, .slice none 0 0, .slice none 0 0, .slice none 0 0, .slice none 0 0], .slice none 0 0, .int .i64 0], []⟩ 8 (by kernel_rfl) (by kernel_rfl) (by kernel_rfl) (by kernel_rfl)) ?_
  intro W base args ds gs before hval0 hW hcnd hsz0
  have hval : ∀ (j : Nat) t v, Try.f3.params[j]? = some t → args[j]? = some v → Value.okWide Try.prog W .any base t v := hval0
  have hW' := hW
  obtain ⟨p, q, hA0, hV, rfl, hfz, hnd⟩ := hW
  have hA : DataW.TrodAll enc Try.prog W 0 (fun _ => true) true Try.f3.params.toList args.toList ds p := hA0
  rw [Try.params3] at hA hval
  obtain ⟨v0, vs0, d0, ds0, p0, q0, hargs, rfl, rfl, h0, r0⟩ := trodAll_cons hA
  obtain ⟨v1, vs1, d1, ds1, p1, q1, rfl, rfl, rfl, h1, r1⟩ := trodAll_cons r0
  obtain ⟨v2, vs2, d2, ds2, p2, q2, rfl, rfl, rfl, h2, r2⟩ := trodAll_cons r1
  obtain ⟨rfl, rfl, rfl⟩ := trodAll_nil r2
  obtain rfl : args = #[v0, v1, v2] := by cases args; simp_all
  obtain ⟨rfl, rfl⟩ := trodVars_none hV
  have k0 := h0
  have lt0 : ∀ x ∈ p0, x.block < W.heap.size := by obtain ⟨m, hm⟩ := k0; exact DataW.trod_lt m _ _ _ hm
  obtain ⟨R0, D0, A0, E0, F0, dn0, dc0, an0, ac0, en0, ec0, fn0, fc0, rfl, w0, o0⟩ := req_of (hval 0 26 v0 rfl rfl) h0
  obtain ⟨A1, n1, c1, rfl⟩ := okWide_slice Try.underlying22 (hval 1 22 v1 rfl rfl)
  have k1 := h1
  have lt1 : ∀ x ∈ p1, x.block < W.heap.size := by obtain ⟨m, hm⟩ := k1; exact DataW.trod_lt m _ _ _ hm
  obtain ⟨b1, w1, l1, m1⟩ := bytes_of Try.underlying22 Try.underlying5 (by kernel_rfl) h1
  obtain ⟨a2, rfl, rfl, rfl, w2⟩ := open_int Try.underlying3 (hval 2 3 v2 rfl rfl) h2
  clear hA0 hval0
  refine (requests_any R0 D0 A0 E0 F0 dn0 dc0 an0 ac0 en0 ec0 fn0 fc0 A1 n1 c1 b1 a2 W w0 w1 l1 o0).mono fun e W' ⟨he, bel⟩ => ?_
  subst he
  exact ⟨_, rfl, _, _, _, [], _, [], hW', trodAll_mk1 (shut_bool Try.underlying4 _), (trodAll_cons_mk (Below.trod laidOut (by kernel_rfl) (of_decide_eq_true (by kernel_rfl)) k0 bel lt0) (trodAll_cons_mk (Below.trod laidOut (by kernel_rfl) (of_decide_eq_true (by kernel_rfl)) k1 bel lt1) (trodAll_cons_mk (shut_int Try.underlying3 w2) trodAll_mk0))), rfl, bel.frame _, fun h => by cases h⟩

theorem protoRequests_over : Rows.ProtoRequestsSaid :=
  OpenClaim.holds_of_wide 3 Try.f3 rfl rfl rfl rfl rfl rfl rfl ⟨rfl, rfl, rfl, rfl, rfl⟩ rfl rfl rfl rfl rfl (by kernel_rfl) Try.func3 (by kernel_rfl)
    (of_decide_eq_true (by kernel_rfl)) (by unfold Func.isWrapper; first | (rw [if_pos (by decide +kernel)]; kernel_rfl) | (rw [if_neg (by decide +kernel)]; exact ⟨rfl, rfl⟩))
    (fun os started H enc _ => protoRequests_lifted os started H enc)
#print axioms protoRequests_over
end Go.Proofs.Ytedacfjkbfgikaa
