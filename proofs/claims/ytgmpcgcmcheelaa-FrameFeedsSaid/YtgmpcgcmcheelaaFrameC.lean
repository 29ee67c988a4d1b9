/- Contracts of frame's Put, Check, All, and the reference's Rows and Same. -/
import Derived.Test.YtgmpcgcmcheelaaConcW
import Derived.Test.YtgmpcgcmcheelaaPut
namespace Go.Proofs.Ytgmpcgcmcheelaa
open Go.RowKit
set_option linter.unusedVariables false

/-- Rows of bytes that can be read. -/
def RowsP (w : World) (A : Option Addr) (n : Nat) (bs : List Bs) : Prop := ∃ vs, Reads w w.heap.size 1 A n vs ∧ RowsV w w.heap.size vs bs
theorem RowsP.below {w w' : World} {A : Option Addr} {n : Nat} {bs : List Bs} (h : RowsP w A n bs) (hb : Below w.heap.size w w') : RowsP w' A n bs := by
  obtain ⟨vs, h1, h2⟩ := h
  exact ⟨vs, (Reads.below h1 hb).more hb.size, (h2.keep fun p hp => hb.cell hp).more hb.size⟩
theorem RowsP.len {w : World} {A : Option Addr} {n : Nat} {bs : List Bs} (h : RowsP w A n bs) : bs.length = n := by
  obtain ⟨vs, h1, h2⟩ := h
  rw [← h2.1, h1.1]; omega
theorem RowsO.rowsP {B : Nat} {w : World} {A : Option Addr} {n c : Nat} {bs : List Bs} (h : RowsO B w A n c bs) (hB : B ≤ w.heap.size) : RowsP w A n bs := by
  obtain ⟨vs, h1, h2⟩ := h
  exact ⟨vs, Reads.of_own h1, h2.more hB⟩
theorem RowsP.nil (w : World) : RowsP w none 0 [] := ⟨[], Reads.none_, RowsV.nil _ _⟩

set_option maxHeartbeats 400000 in
theorem clone_any (A : Option Addr) (n c : Nat) (bs : Bs) (w : World) (hr : Rd w A n bs) (hn : n ≤ 100000) :
    Calls Try.prog 19 #[.slice A n c] w fun e w' => ∃ A' c', e = .returned (.slice A' n c') ∧ w'.ownsRow w.heap.size 5 1 (.slice A' n c') n (bv bs) ∧ Below w.heap.size w w' := by
  rcases A with _ | ad
  · have h0 : n = 0 := by
      rcases Nat.eq_zero_or_pos n with h | h
      · exact h
      · obtain ⟨_, e, _⟩ := hr.2 h; cases e
    subst h0
    obtain rfl := List.eq_nil_of_length_eq_zero hr.len
    have hnil := fun (W : World) => Lib.run_eql_slice_nil (P := Try.prog) W 22 5 none 0 c 0 0 Try.underlying22
    go_enter Try.func19, Try.ntmps19
    go_wp2
    go_ret
    exact ⟨none, 0, rfl, World.ownsRow_nil _ _ _ _, Below.refl _ _⟩
  · refine (sclone_any ad n c bs w hr (by omega)).mono ?_
    rintro e w' ⟨v, rfl, ho, hb⟩
    obtain ⟨A', c', rfl⟩ := own_slice ho
    exact ⟨A', c', rfl, ho, hb⟩

theorem put2 (n : Nat) (w : World) (hn : n < 18446744073709551616) :
    Calls Try.prog 23 #[.int .u64 n, .int .i64 2] w fun e w' => ∃ v, e = .returned v ∧ w'.ownsRow w.heap.size 5 1 v 2 (bv (be 2 n)) ∧ Below w.heap.size w w' := put_yes n 2 w (by omega) (by omega) hn
theorem fput_no (A : Option Addr) (n c : Nat) (w : World) (h : n < 1 ∨ 4096 < n) :
    Calls Try.prog 10 #[.slice A n c] w fun e w' => e = .returned (.tuple #[.slice none 0 0, .int .i64 2]) ∧ Below w.heap.size w w' := by
  rcases h with h | h
  · have h' : (n : Int) < 1 := by omega
    go_enter Try.func10, Try.ntmps10
    go_wp2
    go_ret2
    exact ⟨rfl, Below.refl _ _⟩
  · have h' : ¬ (n : Int) < 1 := by omega
    have h'' : (4096 : Int) < n := by omega
    go_enter Try.func10, Try.ntmps10
    go_wp2
    go_ret2
    exact ⟨rfl, Below.refl _ _⟩
set_option maxHeartbeats 400000 in
theorem fput_yes (A : Option Addr) (n c : Nat) (b : Bs) (w : World) (hr : Rd w A n b) (h1 : 1 ≤ n) (h2 : n ≤ 4096) :
    Calls Try.prog 10 #[.slice A n c] w fun e w' => ∃ J j, e = .returned (.tuple #[.slice J (2 + n) j, .int .i64 0]) ∧ w'.ownsRow w.heap.size 5 1 (.slice J (2 + n) j) (2 + n) (bv (be 2 n ++ b)) ∧ Below w.heap.size w w' := by
  obtain ⟨i0, hi, hz0, hz1, hz2⟩ := info_parts infoU8
  have g1 : ¬ (n : Int) < 1 := by omega
  have g2 : ¬ (4096 : Int) < n := by omega
  have HR := hide hr
  clear hr
  go_enter Try.func10, Try.ntmps10
  go_wp2_with fail
  refine (put2 n _ (by omega)).mono ?_
  rintro e w1 ⟨v, rfl, ho, hb⟩
  obtain ⟨A1, c1, rfl⟩ := own_slice ho
  have hr2 := (Reads.below HR.out hb).more hb.size
  have HB := hide hb
  have HO := hide ho
  have hsz := hb.size
  clear hb
  go_wp2_with (at_builtin; (refine wpList_append_any _ rfl (.tmp 15) (.tmp 16) 22 rfl w.heap.size 5 i0 _ 1 1 Try.underlying22 hi hz0 hz1 hz2 rfl (by omega) (.slice A1 2 c1) 2 (bv (be 2 n)) rfl ho w1.heap.size A n c (bv b) rfl hr2 (bv_one _) ?c1 ?c2 ?c3 ?_))
  case c1 => unfold maxLen; omega
  case c2 => omega
  case c3 => omega
  intro v1 w2 hown1 hg1 hat1
  obtain ⟨J, j, rfl⟩ := own_slice hown1
  rw [← bv_append] at hown1
  have HB2 := hide (Below.grown (h := HB.out) (hg := hg1) (by omega) (fun g hg => (World.ownsRow.lt HO.out g hg).1))
  have HO2 := hide hown1
  clear hown1 hg1 hat1 hr2 ho
  go_wp2
  go_ret2
  exact ⟨J, j, rfl, HO2.out, HB2.out⟩

theorem below_drewN_ {B : Nat} {a w : World} (h : Below B a w) (n : Nat) : Below B a (w.drewN n) := h.trans ⟨rfl, rfl, rfl, Nat.le_refl _, fun _ _ => rfl⟩
set_option maxHeartbeats 1000000 in
theorem rows_any (A : Option Addr) (n c : Nat) (B : Option Addr) (c' : Nat) (bs : List Bs) (w : World) (ha : RowsP w A n bs) (hb : RowsP w B n bs) (hn : n ≤ 1000000) :
    Calls Try.prog 15 #[.slice A n c, .slice B n c'] w fun e w' => e = .returned (.bool true) ∧ Below w.heap.size w w' := by
  have hl := ha.len
  subst hl
  have HA := hide ha
  have HB := hide hb
  clear ha hb
  go_enter Try.func15, Try.ntmps15
  go_wp2
  go_loopw [5] (fun i wr => ∃ (k d : Nat), k ≤ bs.length ∧ i = .int .i64 k ∧ wr = w.drewN d) (fun i _ => bs.length - (intOf i).toNat)
  case atStart => exact ⟨0, 0, Nat.zero_le _, rfl, rfl⟩
  case round =>
    obtain ⟨k, d, hk, rfl, rfl⟩ := hrel
    by_cases hlt : k < bs.length
    · obtain ⟨vs1, r1, v1⟩ := HA.out
      obtain ⟨vs2, r2, v2⟩ := HB.out
      obtain ⟨a1, u1, rfl, _, hu1, hc1⟩ := r1.at_ hlt
      obtain ⟨a2, u2, rfl, _, hu2, hc2⟩ := r2.at_ hlt
      obtain ⟨X1, n1, c1, rfl, q1⟩ := v1.2 k u1 bs[k] hu1 (List.getElem?_eq_getElem hlt)
      obtain ⟨X2, n2, c2, rfl, q2⟩ := v2.2 k u2 bs[k] hu2 (List.getElem?_eq_getElem hlt)
      have s1 := fun q => run_string_of (P := Try.prog) (w.drewN q) _ 22 9 5 X1 n1 c1 bs[k] Try.underlying22 Try.underlying5 Try.underlying9 (q1.drewN q)
      have s2 := fun q => run_string_of (P := Try.prog) (w.drewN q) _ 22 9 5 X2 n2 c2 bs[k] Try.underlying22 Try.underlying5 Try.underlying9 (q2.drewN q)
      clear hu1 hu2 r1 r2 v1 v2 q1 q2
      generalize bs[k] = x at *
      have hi0 : (0 : Int) ≤ (k : Int) := by omega
      have hi1 : (k : Int) < (bs.length : Int) := by omega
      go_wp2
      go_quiet (fail)
      go_wp2
      go_roundw
      case rel => exact ⟨k + 1, _, by omega, by go_num, rfl⟩
      case measure => simp [intOf]; omega
    · go_wp2
      go_ret
      exact ⟨rfl, below_drewN_ (Below.refl _ _) _⟩

abbrev stV (A : Option Addr) (n c : Nat) (dead : Bool) : Value := .agg #[.slice A n c, .bool dead]
set_option maxHeartbeats 400000 in
theorem stsame_any (A : Option Addr) (n c : Nat) (B : Option Addr) (m k : Nat) (dead : Bool) (h : Bs) (w : World) (ha : Rd w A n h) (hb : Rd w B m h) :
    Calls Try.prog 14 #[stV A n c dead, stV B m k dead] w fun e w' => e = .returned (.bool true) ∧ Below w.heap.size w w' := by
  have r1 := run_string_of (P := Try.prog) ((w.alloc (.cells #[.slice A n c, .bool dead] 24)).alloc (.cells #[.slice B m k, .bool dead] 24)) _ 22 9 5 A n c h Try.underlying22 Try.underlying5 Try.underlying9 ((ha.alloc (Nat.le_refl _) _).alloc (by simp) _)
  have r2 := run_string_of (P := Try.prog) ((w.alloc (.cells #[.slice A n c, .bool dead] 24)).alloc (.cells #[.slice B m k, .bool dead] 24)) _ 22 9 5 B m k h Try.underlying22 Try.underlying5 Try.underlying9 ((hb.alloc (Nat.le_refl _) _).alloc (by simp) _)
  clear ha hb
  go_enter Try.func14, Try.ntmps14
  go_wp2
  go_ret
  exact ⟨rfl, (((Below.refl w.heap.size w).alloc (Nat.le_refl _) _).alloc (by simp) _)⟩
end Go.Proofs.Ytgmpcgcmcheelaa
