/- proto.integer, text, add. -/
import Derived.Test.YtedacfjkbfgikaaPut
import Derived.Test.YtedacfjkbfgikaaSclone
import Derived.Test.YtedacfjkbfgikaaPrE
import Derived.Lib.AppendStr
namespace Go.Proofs.Ytedacfjkbfgikaa
open Go.RowKit
set_option linter.unusedVariables false
def OwB (B : Nat) (w : World) (A : Option Addr) (n c : Nat) (bs : LB) : Prop := w.ownsRow B 5 1 (.slice A n c) n (bv bs)
theorem OwB.rd {B : Nat} {w : World} {A : Option Addr} {n c : Nat} {bs : LB} (h : OwB B w A n c bs) : Rd w A n bs := Reads.of_own h
theorem OwB.below {B : Nat} {w w' : World} {A : Option Addr} {n c : Nat} {bs : LB} (h : OwB B w A n c bs) (hb : Below w.heap.size w w') : OwB B w' A n c bs := own_below h hb
theorem OwB.le {B : Nat} {w : World} {A : Option Addr} {n c : Nat} {bs : LB} (h : OwB B w A n c bs) : n ≤ c := by
  rcases h.2 with ⟨hv, h0⟩ | ⟨g, cap, cur, hv, hb, hh, hnc, hmx, hsz, htk⟩
  · subst h0; exact Nat.zero_le _
  · injection hv with e1 e2 e3; subst e3; exact hnc
theorem put_ow (n m : Nat) (w : World) (h1 : 1 ≤ m) (h2 : m ≤ 8) (hn : n < 18446744073709551616) : Calls Try.prog 90 #[.int .u64 n, .int .i64 m] w fun e w' => ∃ A c, e = .returned (.slice A m c) ∧ OwB w.heap.size w' A m c (be m n) ∧ Below w.heap.size w w' :=
  (put_yes n m w h1 h2 hn).mono fun e w' ⟨v, h1, h2, h3⟩ => by
    obtain ⟨A, c, rfl⟩ := own_slice h2
    exact ⟨A, c, h1, h2, h3⟩
theorem put2 (n : Nat) (w : World) (hn : n < 18446744073709551616) : Calls Try.prog 90 #[.int .u64 (n : Int), .int .i64 2] w fun e w' => ∃ A c, e = .returned (.slice A 2 c) ∧ OwB w.heap.size w' A 2 c (be 2 n) ∧ Below w.heap.size w w' := put_ow n 2 w (by omega) (by omega) hn
theorem put4 (n : Nat) (w : World) (hn : n < 18446744073709551616) : Calls Try.prog 90 #[.int .u64 (n : Int), .int .i64 4] w fun e w' => ∃ A c, e = .returned (.slice A 4 c) ∧ OwB w.heap.size w' A 4 c (be 4 n) ∧ Below w.heap.size w w' := put_ow n 4 w (by omega) (by omega) hn
theorem strc (p : LB) : Lib.strCells ⟨p.toArray⟩ = bv p := by simp [Lib.strCells, bv]
theorem be_mod (k n m : Nat) (h : n % 256 ^ k = m % 256 ^ k) : be k n = be k m := by
  rw [← num_be (be k n) k (be_length k n), ← num_be (be k m) k (be_length k m), be_num, be_num, h]
theorem int_be (n : Int) : be 4 (n % 18446744073709551616).toNat = intP n := by
  unfold intP
  refine be_mod 4 _ _ ?_
  have h4 : (256 : Nat) ^ 4 = 4294967296 := by decide
  rw [h4]
  omega
set_option maxRecDepth 100000 in
set_option maxHeartbeats 2000000 in
theorem integer_any (n : Int) (w : World) (h1 : -9223372036854775808 ≤ n) (h2 : n ≤ 9223372036854775807) :
    Calls Try.prog 29 #[.int .i64 n] w fun e w' => ∃ A c, e = .returned (.slice A 4 c) ∧ OwB w.heap.size w' A 4 c (intP n) ∧ Below w.heap.size w w' := by
  have hw : IntKind.u64.wrap n = ((n % 18446744073709551616).toNat : Int) := by simp [IntKind.wrap, IntKind.bits, IntKind.signed]; omega
  have XP := hide (put4 (n % 18446744073709551616).toNat w (by omega))
  rw [int_be] at XP
  obtain ⟨m, hm⟩ : ∃ m, (n % 18446744073709551616).toNat = m := ⟨_, rfl⟩
  rw [hm] at XP hw
  clear hm h1 h2
  go_enter Try.func29, Try.ntmps29
  go_wp2_with fail
  with_reducible refine XP.out.mono ?_
  rintro e w1 ⟨A, c, rfl, ho, hb⟩
  have HO := hide ho
  have HB := hide hb
  clear ho hb XP
  go_wp2_with fail
  go_ret
  exact ⟨A, c, rfl, HO.out, HB.out⟩
set_option maxRecDepth 100000 in
set_option maxHeartbeats 2000000 in
theorem ptext_any (s : LB) (w : World) (hs : s.length ≤ 1000000) :
    Calls Try.prog 31 #[.string ⟨s.toArray⟩] w fun e w' => ∃ A c, e = .returned (.slice A (2 + s.length) c) ∧ OwB w.heap.size w' A (2 + s.length) c (be 2 s.length ++ s) ∧ Below w.heap.size w w' := by
  obtain ⟨i0, hi, hz0, hz1, hz2⟩ := info_parts infoU8
  have hw : IntKind.u64.wrap (s.length : Int) = (s.length : Int) := by simp [IntKind.wrap, IntKind.bits, IntKind.signed]; omega
  have XP := hide (put2 s.length w (by omega))
  go_enter Try.func31, Try.ntmps31
  go_wp2_with fail
  with_reducible refine XP.out.mono ?_
  rintro e w1 ⟨A, c, rfl, ho, hb⟩
  have HO := hide ho
  have HB := hide hb
  have hs1 := hb.size
  clear ho hb XP
  go_wp2_with (at_builtin; (refine Lib.wpList_append_own_string _ rfl (.tmp 6) (.tmp 7) 22 9 rfl w.heap.size 5 i0 Try.underlying22 Try.underlying9 hi hz0 hz1 hz2 (.slice A 2 c) 2 (bv (be 2 s.length)) rfl (by exact HO.out) ⟨s.toArray⟩ rfl ?d1 ?d2 ?d3 ?_))
  case d1 => show 2 + s.length ≤ _; unfold maxLen; omega
  case d2 => show 2 + s.length ≤ _; omega
  case d3 => exact hs1
  intro v9 w9 hown9 hg9 hat9
  obtain ⟨A9, c9, rfl⟩ := own_slice hown9
  rw [strc, ← bv_append] at hown9
  have HO9 : Hid (OwB w.heap.size w9 A9 (2 + s.length) c9 (be 2 s.length ++ s)) := hide hown9
  have HB9 : Hid (Below w.heap.size w w9) := hide (HB.out.grown hg9 hs1 (fun g hg => (World.ownsRow.lt HO.out g hg).1))
  clear hown9 hg9 hat9 HO HB
  go_wp2_with fail
  go_ret
  exact ⟨A9, c9, rfl, HO9.out, HB9.out⟩
structure Ad (B g : Nat) (w w' : World) : Prop where
  size : w.heap.size ≤ w'.heap.size
  block : ∀ x, x < B → x ≠ g → w'.heap[x]? = w.heap[x]?
  typed : ∀ x t cs, Blk w x t cs → t ≠ 5 → x ≠ g → Blk w' x t cs
  os : w'.os = w.os
  tape : w'.tape = w.tape
  output : w'.output = w.output
/-- What is written so far lies behind the box of the output. -/
def OutAt (g B : Nat) (bs : LB) (w : World) : Prop := ∃ A n c, Blk w g 55 #[.slice A n c] ∧ OwB B w A n c bs
set_option maxRecDepth 100000 in
set_option maxHeartbeats 4000000 in
theorem add_any (g B : Nat) (bs : LB) (D : Option Addr) (m k : Nat) (b : LB) (w : World) (hO : OutAt g B bs w) (hB : B ≤ w.heap.size) (hr : Rd w D m b) (hn : bs.length ≤ 1000000) (hm : m ≤ 1000000) (hmk : m ≤ k) :
    Calls Try.prog 28 #[.pointer (some ⟨g, 0, none⟩), .slice D m k] w fun e w' => e = .returned (.tuple #[]) ∧ OutAt g B (bs ++ b) w' ∧ Ad B g w w' := by
  obtain ⟨i0, hi, hz0, hz1, hz2⟩ := info_parts infoU8
  obtain ⟨A, n, c, hk, ho⟩ := hO
  have hgne := own_blk_ne ho hk (by decide)
  have hbl : bs.length = n := ho.rd.len
  have hn2 : n ≤ 1000000 := by omega
  have HK := hide hk
  have HO := hide ho
  have HR := hide hr
  have c0 := hk.cell 0
  have f0 := hk.frozen 0
  have kl := hk.lt
  simp only [List.getElem?_toArray, List.getElem?_cons_zero] at c0
  clear hk ho hr hbl hn
  go_enter Try.func28, Try.ntmps28
  go_wp2_with (at_builtin; (refine wpList_append_any _ rfl (.tmp 8) (.tmp 9) 22 rfl B 5 i0 _ 1 1 Try.underlying22 hi hz0 hz1 hz2 rfl (by omega) (.slice A n c) n (bv bs) rfl (by exact HO.out) _ D m k (bv b) rfl (by exact HR.out) (bv_one _) ?c1 ?c2 ?c3 ?_))
  case c1 => unfold maxLen; omega
  case c2 => omega
  case c3 => exact hB
  intro v9 w9 hown9 hg9 hat9
  obtain ⟨A9, k9, rfl⟩ := own_slice hown9
  rw [← bv_append] at hown9
  have hk9 : Blk w9 g 55 #[.slice A n c] := HK.out.grown hg9 (fun h => hgne h.symm)
  have HO9 : Hid (OwB B w9 A9 (n + m) k9 (bs ++ b)) := hide hown9
  have HK9 := hide hk9
  have hlow : ∀ x, x < B → w9.heap[x]? = w.heap[x]? := fun x hx => hg9.block x (by omega) (by
    intro h
    have := (World.ownsRow.lt HO.out x h.symm).1
    omega)
  have hsz : w.heap.size ≤ w9.heap.size := hg9.size
  have HS9 : Hid (w9.os = w.os ∧ w9.tape = w.tape ∧ w9.output = w.output) := hide ⟨hg9.os, hg9.tape, hg9.output⟩
  have HL := hide hlow
  have HT9 : Hid (∀ x t cs, Blk w x t cs → t ≠ 5 → Blk w9 x t cs) := hide (fun x t cs hx ht => hx.grown hg9 (own_blk_ne HO.out hx (fun e => ht e.symm)).symm)
  have c9 := hk9.cell 0
  have f9 := hk9.frozen 0
  simp only [List.getElem?_toArray, List.getElem?_cons_zero] at c9
  clear hown9 hg9 hat9 hk9 hlow c0 f0
  go_wp2_with fail
  go_end0
  have hk10 := HK9.out.set_ 0 (.slice A9 (n + m) k9)
  refine ⟨rfl, ⟨A9, n + m, k9, by simpa using hk10, own_set_blk (p := ⟨g, 0, none⟩) HO9.out HK9.out (by decide) _⟩, ⟨by simpa using hsz, fun x hx hne => ?_, fun x t cs hx ht hne => (HT9.out x t cs hx ht).far (p := ⟨g, 0, none⟩) hne _, HS9.out.1, HS9.out.2.1, HS9.out.2.2⟩⟩
  rw [← HL.out x hx]
  exact Below.heap_setCell w9 ⟨g, 0, none⟩ _ x hne
end Go.Proofs.Ytedacfjkbfgikaa
