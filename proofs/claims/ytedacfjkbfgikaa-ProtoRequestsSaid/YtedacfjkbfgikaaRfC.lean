/- The document's number, text, list, and the list of numbers. -/
import Derived.Test.YtedacfjkbfgikaaRfB
import Derived.Test.YtedacfjkbfgikaaRput
namespace Go.Proofs.Ytedacfjkbfgikaa
open Go.RowKit
set_option linter.unusedVariables false
theorem rput_ow (n m : Nat) (w : World) (h1 : 1 ≤ m) (h2 : m ≤ 8) (hn : n < 18446744073709551616) : Calls Try.prog 104 #[.int .u64 n, .int .i64 m] w fun e w' => ∃ A c, e = .returned (.slice A m c) ∧ OwB w.heap.size w' A m c (be m n) ∧ Below w.heap.size w w' :=
  (rput_yes n m w h1 h2 hn).mono fun e w' ⟨v, h1, h2, h3⟩ => by
    obtain ⟨A, c, rfl⟩ := own_slice h2
    exact ⟨A, c, h1, h2, h3⟩
theorem rput2 (n : Nat) (w : World) (hn : n < 18446744073709551616) : Calls Try.prog 104 #[.int .u64 (n : Int), .int .i64 2] w fun e w' => ∃ A c, e = .returned (.slice A 2 c) ∧ OwB w.heap.size w' A 2 c (be 2 n) ∧ Below w.heap.size w w' := rput_ow n 2 w (by omega) (by omega) hn
theorem rput4 (n : Nat) (w : World) (hn : n < 18446744073709551616) : Calls Try.prog 104 #[.int .u64 (n : Int), .int .i64 4] w fun e w' => ∃ A c, e = .returned (.slice A 4 c) ∧ OwB w.heap.size w' A 4 c (be 4 n) ∧ Below w.heap.size w w' := rput_ow n 4 w (by omega) (by omega) hn
set_option maxRecDepth 100000 in
set_option maxHeartbeats 2000000 in
theorem rnumber_any (n : Int) (w : World) (h1 : -9223372036854775808 ≤ n) (h2 : n ≤ 9223372036854775807) :
    Calls Try.prog 82 #[.int .i64 n] w fun e w' => ∃ A c, e = .returned (.slice A 4 c) ∧ OwB w.heap.size w' A 4 c (intP n) ∧ Below w.heap.size w w' := by
  have hw : IntKind.u64.wrap n = ((n % 18446744073709551616).toNat : Int) := by simp [IntKind.wrap, IntKind.bits, IntKind.signed]; omega
  have XP := hide (rput4 (n % 18446744073709551616).toNat w (by omega))
  rw [int_be] at XP
  obtain ⟨m, hm⟩ : ∃ m, (n % 18446744073709551616).toNat = m := ⟨_, rfl⟩
  rw [hm] at XP hw
  clear hm h1 h2
  go_enter Try.func82, Try.ntmps82
  go_wp2_with fail
  with_reducible refine XP.out.mono ?_
  rintro e w1 ⟨A, c, rfl, ho, hb⟩
  have HO := hide ho
  have HB := hide hb
  clear ho hb XP
  go_wp2_with fail
  go_ret
  exact ⟨A, c, rfl, HO.out, HB.out⟩
set_option maxRecDepth 100000 in
set_option maxHeartbeats 2000000 in
theorem rtext_any (s : LB) (w : World) (hs : s.length ≤ 1000000) :
    Calls Try.prog 83 #[.string ⟨s.toArray⟩] w fun e w' => ∃ A c, e = .returned (.slice A (2 + s.length) c) ∧ OwB w.heap.size w' A (2 + s.length) c (be 2 s.length ++ s) ∧ Below w.heap.size w w' := by
  obtain ⟨i0, hi, hz0, hz1, hz2⟩ := info_parts infoU8
  have hw : IntKind.u64.wrap (s.length : Int) = (s.length : Int) := by simp [IntKind.wrap, IntKind.bits, IntKind.signed]; omega
  have XP := hide (rput2 s.length w (by omega))
  go_enter Try.func83, Try.ntmps83
  go_wp2_with fail
  with_reducible refine XP.out.mono ?_
  rintro e w1 ⟨A, c, rfl, ho, hb⟩
  have HO := hide ho
  have HB := hide hb
  have hs1 := hb.size
  clear ho hb XP
  go_wp2_with (at_builtin; (refine Lib.wpList_append_own_string _ rfl (.tmp 6) (.tmp 7) 22 9 rfl w.heap.size 5 i0 Try.underlying22 Try.underlying9 hi hz0 hz1 hz2 (.slice A 2 c) 2 (bv (be 2 s.length)) rfl (by exact HO.out) ⟨s.toArray⟩ rfl ?d1 ?d2 ?d3 ?_))
  case d1 => show 2 + s.length ≤ _; unfold maxLen; omega
  case d2 => show 2 + s.length ≤ _; omega
  case d3 => exact hs1
  intro v9 w9 hown9 hg9 hat9
  obtain ⟨A9, c9, rfl⟩ := own_slice hown9
  rw [strc, ← bv_append] at hown9
  have HO9 : Hid (OwB w.heap.size w9 A9 (2 + s.length) c9 (be 2 s.length ++ s)) := hide hown9
  have HB9 : Hid (Below w.heap.size w w9) := hide (HB.out.grown hg9 hs1 (fun g hg => (World.ownsRow.lt HO.out g hg).1))
  clear hown9 hg9 hat9 HO HB
  go_wp2_with fail
  go_ret
  exact ⟨A9, c9, rfl, HO9.out, HB9.out⟩
theorem one_byte (k : Nat) : IntKind.u8.wrap (k : Int) = (((UInt8.ofNat k).toNat : Nat) : Int) := by
  simp [IntKind.wrap, IntKind.bits, IntKind.signed]
theorem be_one (k : Nat) : be 1 k = [UInt8.ofNat k] := by simp [be]
set_option maxRecDepth 100000 in
set_option maxHeartbeats 4000000 in
theorem rlist_any (l : List LB) (A : Option Addr) (n c : Nat) (w : World) (hr : Reads w w.heap.size 1 A n (svs l)) (hn : n ≤ 100000) (hT : (catP (l.map txtP)).length ≤ 500000) :
    Calls Try.prog 84 #[.slice A n c] w fun e w' => ∃ A' c', e = .returned (.slice A' (1 + (catP (l.map txtP)).length) c') ∧ OwB w.heap.size w' A' (1 + (catP (l.map txtP)).length) c' (be 1 l.length ++ catP (l.map txtP)) ∧ Below w.heap.size w w' := by
  obtain ⟨i0, hi, hz0, hz1, hz2⟩ := info_parts infoU8
  have hlen : l.length = n := by have := hr.1; simpa [svs] using this
  have hw := one_byte n
  have HR := hide hr
  have HL := hide hlen
  have HT := hide hT
  have hsl : Try.prog.elem 23 = 9 := by simp [Program.elem, Try.underlying23]
  clear hr hT
  go_enter Try.func84, Try.ntmps84
  have HI0 : Hid (OwB w.heap.size (w.alloc (.cells #[.int .u8 (((UInt8.ofNat n).toNat : Nat) : Int)] 5)) (some ⟨w.heap.size, 0, none⟩) 1 1 (be 1 n)) := hide (by
    rw [be_one]
    exact (Blk.new w 5 #[.int .u8 (((UInt8.ofNat n).toNat : Nat) : Int)]).own (Nat.le_refl _) (cap := 1) (by unfold maxLen; omega) rfl)
  have HB0 := hide ((Below.refl w.heap.size w).alloc (Nat.le_refl _) (.cells #[.int .u8 (((UInt8.ofNat n).toNat : Nat) : Int)] 5))
  generalize UInt8.ofNat n = nb at *
  go_wp2_with fail
  clear hw
  go_loopw [3, 4] (fun s5 s14 wx => ∃ i : Nat, i ≤ n ∧ s14 = .int .i64 (i : Int) ∧ ∃ A2 c2, s5 = .slice A2 (1 + (catP ((l.take i).map txtP)).length) c2 ∧ Hid (OwB w.heap.size wx A2 (1 + (catP ((l.take i).map txtP)).length) c2 (be 1 n ++ catP ((l.take i).map txtP))) ∧ Hid (Below w.heap.size w wx)) (fun _ i _ => n - (intOf i).toNat)
  case atStart => exact ⟨0, Nat.zero_le _, rfl, some ⟨w.heap.size, 0, none⟩, 1, rfl, by simpa [catP] using HI0, HB0⟩
  case round =>
    obtain ⟨i, hi', rfl, A2, c2, rfl, HI, HB⟩ := hrel
    by_cases hlt : i < n
    · have hlt1 : (i : Int) < (n : Int) := by omega
      obtain ⟨ad, u, rfl, hab, hu, hcell⟩ := (HR.out.below HB.out).at_ hlt
      obtain ⟨x, hx⟩ : ∃ x, l[i]? = some x := ⟨l[i]'(by rw [HL.out]; exact hlt), List.getElem?_eq_getElem _⟩
      have hux : u = .string ⟨x.toArray⟩ := by
        have h := hu
        simp only [svs, List.getElem?_map, hx, Option.map_some, Option.some.injEq] at h
        exact h.symm
      subst hux
      have HX := hide hx
      have HC := hide (catP_take txtP l i x hx)
      have hcl := catP_le txtP l (i + 1)
      rw [HC.out, List.length_append] at hcl
      have hT := HT.out
      have hxl := catP_in txtP l i x hx

      have XI := hide (rtext_any x wr (by have := txt_len x; omega))
      have hbd : (catP ((l.take i).map txtP)).length + (2 + x.length) ≤ 500000 := by rw [txt_len] at hcl; omega
      have v1 : IntKind.i64.wrap ((i : Int) + 1) = (i : Int) + 1 := by simp [IntKind.wrap, IntKind.bits, IntKind.signed]; omega
      generalize hL : (catP ((l.take i).map txtP)).length = L at *
      clear hx hu hT
      go_wp2_with fail
      refine XI.out.mono ?_
      rintro e3 w3 ⟨A3, c3, rfl, ho3, hb3⟩
      have hbase : w.heap.size ≤ w3.heap.size := Nat.le_trans HB.out.size hb3.size
      have HI3 : Hid (OwB w.heap.size w3 A2 (1 + L) c2 (be 1 n ++ catP ((l.take i).map txtP))) := hide (HI.out.below hb3)
      have HB3 : Hid (Below w.heap.size w w3) := hide (HB.out.trans (hb3.mono HB.out.size))
      have HO3 := hide ho3
      clear ho3 hb3 XI hcell
      go_wp2_with (at_builtin; (refine wpList_append_any _ rfl (.tmp 15) (.tmp 20) 22 rfl w.heap.size 5 i0 _ 1 1 Try.underlying22 hi hz0 hz1 hz2 rfl (by omega) (.slice A2 (1 + L) c2) (1 + L) (bv (be 1 n ++ catP ((l.take i).map txtP))) rfl (by exact HI3.out) _ A3 (2 + x.length) c3 (bv (txtP x)) rfl (by exact HO3.out.rd) (bv_one _) ?c1 ?c2 ?c3 ?_))
      case c1 => unfold maxLen; omega
      case c2 => omega
      case c3 => exact hbase
      intro v9 w9 hown9 hg9 hat9
      obtain ⟨A9, k9, rfl⟩ := own_slice hown9
      rw [← bv_append, List.append_assoc] at hown9
      simp only [← List.map_take] at hown9
      rw [← HC.out] at hown9
      have hL2 : (catP ((l.take (i + 1)).map txtP)).length = L + (2 + x.length) := by rw [HC.out, List.length_append, hL, txt_len]
      have HI9 : Hid (OwB w.heap.size w9 A9 (1 + (catP ((l.take (i + 1)).map txtP)).length) k9 (be 1 n ++ catP ((l.take (i + 1)).map txtP))) := hide (by rw [hL2, ← Nat.add_assoc]; exact hown9)
      have HB9 : Hid (Below w.heap.size w w9) := hide (HB3.out.grown hg9 hbase (fun g hg => (World.ownsRow.lt HI3.out g hg).1))
      have HL2 := hide hL2
      clear hown9 hg9 hat9 HI3 HB3 HO3 hL2
      go_wp2_with fail
      go_roundw
      case rel => exact ⟨i + 1, by omega, by go_num, A9, k9, by rw [HL2.out]; congr 1 <;> omega, HI9, HB9⟩
      case measure => simp [intOf]; omega
    · obtain rfl : i = n := by omega
      have hlt1 : ¬ (i : Int) < (i : Int) := by omega
      have hall : l.take i = l := List.take_of_length_le (by rw [HL.out]; exact Nat.le_refl _)
      rw [hall] at HI ⊢
      go_wp2_with fail
      go_ret
      exact ⟨A2, c2, rfl, by first | exact HI.out | (rw [HL.out]; exact HI.out), HB.out⟩

end Go.Proofs.Ytedacfjkbfgikaa
