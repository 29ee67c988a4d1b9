/- Which program a file is. -/
import Derived.Test.YtlkccboongnneaaGreatDoorPgAB
import Derived.Test.YtlkccboongnneaaGreatDoorShelfB
import Derived.Lib.IndexLaws
namespace Go.Proofs.YtlkccboongnneaaGreatDoor
open Go.RowKit
set_option linter.unusedVariables false
theorem ext_two (l : Bs) (i j : Nat) : (⟨l.toArray⟩ : ByteArray).extract i j = ⟨((l.drop i).take (j - i)).toArray⟩ := by
  apply ByteArray.ext
  simp [ByteArray.data_extract]
theorem ext_from (l : Bs) (i : Nat) : (⟨l.toArray⟩ : ByteArray).extract i l.length = ⟨(l.drop i).toArray⟩ := by
  rw [ext_two, List.take_of_length_le (by simp)]
/-- What stands ahead of the first byte a. -/
def ahead (a : UInt8) (l : Bs) : Bs := l.takeWhile fun x => x != a
theorem ahead_split (a : UInt8) : ∀ l : Bs, (Lib.indexByte l a = -1 ∧ ahead a l = l) ∨ (∃ i : Nat, Lib.indexByte l a = i ∧ i < l.length ∧ ahead a l = l.take i) := by
  intro l
  induction l with
  | nil => exact .inl ⟨rfl, rfl⟩
  | cons x l ih =>
    by_cases hx : x = a
    · subst hx
      exact .inr ⟨0, by simp [Lib.indexByte], by simp, by simp [ahead]⟩
    · have hxb : (x == a) = false := by simpa using hx
      have hxn : (x != a) = true := by simpa using hx
      rcases ih with ⟨h1, h2⟩ | ⟨i, h1, h2, h3⟩
      · refine .inl ⟨by unfold Lib.indexByte; simp [hxb, h1], ?_⟩
        unfold ahead at h2 ⊢
        rw [List.takeWhile_cons, if_pos hxn, h2]
      · refine .inr ⟨i + 1, ?_, by simp; omega, ?_⟩
        · unfold Lib.indexByte
          rw [h1]
          simp [hxb]
        · unfold ahead at h3 ⊢
          rw [List.takeWhile_cons, if_pos hxn, h3]
          rfl
theorem ahead_le (a : UInt8) (l : Bs) : (ahead a l).length ≤ l.length := by
  rcases ahead_split a l with ⟨_, h⟩ | ⟨i, _, h1, h⟩
  · rw [h]; exact Nat.le_refl _
  · rw [h]; simp; omega
set_option maxRecDepth 100000 in
set_option maxHeartbeats 2000000 in
theorem scut_any (s : Bs) (a : UInt8) (hs : s.length ≤ 1000000) (w : World) :
    Calls Tryz.prog 33 #[.string ⟨s.toArray⟩, .string ⟨#[a]⟩] w fun e w' => (∃ x b, e = .returned (.tuple #[.string ⟨(ahead a s).toArray⟩, .string x, .bool b])) ∧ ∃ n, w' = w.drewN n := by
  have XI := hide (Any.stringslite_Index_one Tryz.lays219 ⟨s.toArray⟩ a w)
  rcases ahead_split a s with ⟨h1, h2⟩ | ⟨i, h1, h2, h3⟩
  · have H1 : Hid (Lib.indexByte s a = -1) := hide h1
    have H2 := hide h2
    clear h1 h2
    go_enter Tryz.func33, Tryz.ntmps33
    go_wp2_with fail
    refine XI.out.mono ?_
    rintro e w1 ⟨rfl, rfl⟩
    rw [show Lib.indexByte (⟨s.toArray⟩ : ByteArray).data.toList a = -1 from by rw [show (⟨s.toArray⟩ : ByteArray).data.toList = s from by simp]; exact H1.out]
    clear XI
    go_wp2_with fail
    go_ret3
    exact ⟨⟨_, _, by rw [H2.out]; rfl⟩, 0, rfl⟩
  · have H1 : Hid (Lib.indexByte s a = i) := hide h1
    have H3 := hide h3
    have c1 : (0 : Int) ≤ (i : Int) := by omega
    have c2 : (i : Int) ≤ (s.length : Int) := by omega
    have c3 : (0 : Int) ≤ (i : Int) + 1 := by omega
    have c4 : (i : Int) + 1 ≤ (s.length : Int) := by omega
    have hw1 : IntKind.i64.wrap ((i : Int) + 1) = (i : Int) + 1 := by simp [IntKind.wrap, IntKind.bits, IntKind.signed]; omega
    clear h1 h3
    go_enter Tryz.func33, Tryz.ntmps33
    go_wp2_with fail
    refine XI.out.mono ?_
    rintro e w1 ⟨rfl, rfl⟩
    rw [show Lib.indexByte (⟨s.toArray⟩ : ByteArray).data.toList a = i from by rw [show (⟨s.toArray⟩ : ByteArray).data.toList = s from by simp]; exact H1.out]
    clear XI
    go_wp2_with fail
    go_quiet (fail)
    go_wp2_with fail
    go_ret3
    exact ⟨⟨_, _, by rw [H3.out, show (⟨(s.take i).toArray⟩ : ByteArray) = (⟨s.toArray⟩ : ByteArray).extract 0 i from by rw [ext_two]; simp]; rfl⟩, _, rfl⟩
set_option maxHeartbeats 1000000 in
theorem cut_any (s : Bs) (a : UInt8) (hs : s.length ≤ 1000000) (w : World) :
    Calls Tryz.prog 23 #[.string ⟨s.toArray⟩, .string ⟨#[a]⟩] w fun e w' => (∃ x b, e = .returned (.tuple #[.string ⟨(ahead a s).toArray⟩, .string x, .bool b])) ∧ ∃ n, w' = w.drewN n := by
  have X := hide (scut_any s a hs w)
  go_enter Tryz.func23, Tryz.ntmps23
  go_wp2_with fail
  refine X.out.mono ?_
  rintro e w1 ⟨⟨x, b, rfl⟩, n, rfl⟩
  clear X
  go_wp2_with fail
  go_ret3
  exact ⟨⟨x, b, rfl⟩, n, rfl⟩
/-- Behind '#!', or all of it. -/
def behind (s : Bs) : Bs × Bool := if [35, 33] <+: s then (s.drop 2, true) else (s, false)
set_option maxHeartbeats 1000000 in
theorem scutp_any (s : Bs) (hs : s.length ≤ 1000000) (w : World) :
    Calls Tryz.prog 32 #[.string ⟨s.toArray⟩, .string ⟨#[35, 33]⟩] w fun e w' => e = .returned (.tuple #[.string ⟨(behind s).1.toArray⟩, .bool (behind s).2]) ∧ w = w' := by
  have X := hide (Any.stringslite_HasPrefix Tryz.lays206 ⟨s.toArray⟩ ⟨#[35, 33]⟩ w)
  by_cases hp : [35, 33] <+: s
  · have HP : Hid (Lib.hasPrefix (⟨s.toArray⟩ : ByteArray).data.toList (⟨#[35, 33]⟩ : ByteArray).data.toList = true) := hide (by
      rw [show (⟨s.toArray⟩ : ByteArray).data.toList = s from by simp]; exact List.isPrefixOf_iff_prefix.2 hp)
    have HB : Hid (behind s = (s.drop 2, true)) := hide (by unfold behind; rw [if_pos hp])
    have hl : 2 ≤ s.length := hp.length_le
    clear hp
    go_enter Tryz.func32, Tryz.ntmps32
    go_wp2_with fail
    refine X.out.mono ?_
    rintro e w1 ⟨rfl, rfl⟩
    rw [HP.out]
    clear X
    have hex := ext_from s 2
    go_wp2_with fail
    go_ret2
    exact ⟨by rw [HB.out]; rfl, rfl⟩
  · have HP : Hid (Lib.hasPrefix (⟨s.toArray⟩ : ByteArray).data.toList (⟨#[35, 33]⟩ : ByteArray).data.toList = false) := hide (by
      rw [show (⟨s.toArray⟩ : ByteArray).data.toList = s from by simp]
      exact Bool.eq_false_iff.2 fun e => hp (List.isPrefixOf_iff_prefix.1 e))
    have HB : Hid (behind s = (s, false)) := hide (by unfold behind; rw [if_neg hp])
    clear hp
    go_enter Tryz.func32, Tryz.ntmps32
    go_wp2_with fail
    refine X.out.mono ?_
    rintro e w1 ⟨rfl, rfl⟩
    rw [HP.out]
    clear X
    go_wp2_with fail
    go_ret2
    exact ⟨by rw [HB.out]; rfl, rfl⟩
set_option maxHeartbeats 1000000 in
theorem cutp_any (s : Bs) (hs : s.length ≤ 1000000) (w : World) :
    Calls Tryz.prog 22 #[.string ⟨s.toArray⟩, .string ⟨#[35, 33]⟩] w fun e w' => e = .returned (.tuple #[.string ⟨(behind s).1.toArray⟩, .bool (behind s).2]) ∧ w = w' := by
  have X := hide (scutp_any s hs w)
  go_enter Tryz.func22, Tryz.ntmps22
  go_wp2_with fail
  refine X.out.mono ?_
  rintro e w1 ⟨rfl, rfl⟩
  clear X
  go_wp2_with fail
  go_ret2
  exact ⟨rfl, rfl⟩
/-- The program of a file. -/
def progP (s : Bs) : Bs × Bool := if (behind s).2 = true ∧ (prgF (ahead 10 (behind s).1)).isSome = true then (ahead 10 (behind s).1, true) else ([], false)
theorem behind_le (s : Bs) : (behind s).1.length ≤ s.length := by
  unfold behind
  split
  · simp
  · exact Nat.le_refl _
set_option maxHeartbeats 2000000 in
theorem program_any (s : Bs) (A : Option Addr) (n c : Nat) (hn : n ≤ 1000000) (w : World) (hR : Reads w w.heap.size 1 A n (bv s)) :
    Calls Tryz.prog 8 #[.slice A n c] w fun e w' => e = .returned (.tuple #[.string ⟨(progP s).1.toArray⟩, .bool (progP s).2]) ∧ Below w.heap.size w w' := by
  have hl : s.length = n := by have := hR.1; simp [bv] at this; exact this
  have hcv := run_string_of (P := Tryz.prog) w w.heap.size 24 9 5 A n c s Tryz.underlying24 Tryz.underlying5 Tryz.underlying9 hR
  have XP := hide (cutp_any s (by omega) w)
  have hbl := behind_le s
  have hal := ahead_le 10 (behind s).1
  obtain ⟨r, hr⟩ : ∃ r, (behind s).1 = r := ⟨_, rfl⟩
  obtain ⟨k, hk⟩ : ∃ k, (behind s).2 = k := ⟨_, rfl⟩
  rw [hr, hk] at XP
  rw [hr] at hbl hal
  have HP : Hid (progP s = if k = true ∧ (prgF (ahead 10 r)).isSome = true then (ahead 10 r, true) else ([], false)) := hide (by unfold progP; rw [hr, hk])
  have XC := hide (cut_any r 10 (by omega) w)
  obtain ⟨nm, hnm⟩ : ∃ x, ahead 10 r = x := ⟨_, rfl⟩
  rw [hnm] at hal HP XC
  have hnml : nm.length ≤ maxLen := by unfold maxLen; omega
  have XK := hide (fun W => known_any nm hnml W)
  clear hR hr hk hnm hbl hal hl
  go_enter Tryz.func8, Tryz.ntmps8
  go_wp2_with fail
  refine XP.out.mono ?_
  rintro e w1 ⟨rfl, rfl⟩
  clear XP hcv
  go_wp2_with fail
  refine XC.out.mono ?_
  rintro e w1 ⟨⟨x, b, rfl⟩, n1, rfl⟩
  clear XC
  cases k with
  | false =>
    go_wp2_with fail
    go_ret2
    exact ⟨by rw [HP.out]; rfl, bdr _ _ _⟩
  | true =>
    go_wp2_with fail
    refine (XK.out _).mono ?_
    rintro e w2 ⟨rfl, hb⟩
    have HB := hide (Below.trans (bdr w.heap.size w n1) hb)
    clear hb XK
    cases hF : (prgF nm).isSome with
    | false =>
      rw [hF] at HP
      clear hF
      go_wp2_with fail
      go_ret2
      exact ⟨by rw [HP.out]; rfl, HB.out⟩
    | true =>
      rw [hF] at HP
      clear hF
      go_wp2_with fail
      go_ret2
      exact ⟨by rw [HP.out]; rfl, HB.out⟩
end Go.Proofs.YtlkccboongnneaaGreatDoor
