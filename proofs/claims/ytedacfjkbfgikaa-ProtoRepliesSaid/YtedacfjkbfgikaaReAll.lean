/- ProtoReplies: for every input the law returns true and leaves its arguments as they were. The contract of the reference's Put. The contract of the reference's Get. The document's number, text, list, and the list of numbers. The document's reader: take, number, signed, text. The document's reader: number, signed, text, list, numbers. The document's Decode of a request: plain, and its steps. What the document's fits says is what the program's says; the document's reply as bytes, plain. The document's EncodeRep. The document's DecodeRep: plain, and its steps. The document's DecodeRep. The law Replies. What the rows' lists give in a seat without laid variables, and how a slice of bytes is opened. How slices of texts and of ints that came in are opened. How a request and a reply that came in are opened. -/
import Derived.Test.YtedacfjkbfgikaaPut
import Derived.Test.YtedacfjkbfgikaaBase
import Derived.Test.YtedacfjkbfgikaaNumP
import Derived.Test.YtedacfjkbfgikaaRfB
import Derived.Test.YtedacfjkbfgikaaMem
import Derived.Test.YtedacfjkbfgikaaRfA
import Derived.Lib.ConvBytes
import Derived.Lib.AtoiErrMem
import Derived.Test.YtedacfjkbfgikaaRfN
import Derived.Test.YtedacfjkbfgikaaPrLa
import Derived.Test.YtedacfjkbfgikaaPrDe
import Derived.Test.YtedacfjkbfgikaaRows
import Derived.WalkKit
import Derived.ProofKit
import Derived.OpenShut
import Derived.ShutString
import Derived.ChangeOld
import Derived.LaidMore
import Derived.Stop.LaidErr
import Derived.Stop.Joined
import Derived.Lib.SmallJoins
import Derived.Test.YtedacfjkbfgikaaStrs
import Derived.Deep.Strs
import Derived.SizedLaws
import Derived.Test.YtedacfjkbfgikaaPrSm
namespace Go.Proofs.Ytedacfjkbfgikaa
open Go.RowKit
set_option linter.unusedVariables false

set_option maxRecDepth 100000 in
set_option maxHeartbeats 400000 in
theorem rput_no (n : Int) (m : Int) (w : World) (h : m < 1 ∨ 8 < m) :
    Calls Try.prog 104 #[.int .u64 n, .int .i64 m] w fun e w' => e = .returned (.slice none 0 0) ∧ w = w' := by
  rcases h with h | h
  · go_enter Try.func104, Try.ntmps104
    go_wp2
    go_ret
    exact ⟨rfl, rfl⟩
  · have h' : ¬ m < 1 := by omega
    go_enter Try.func104, Try.ntmps104
    go_wp2
    go_ret
    exact ⟨rfl, rfl⟩
set_option maxRecDepth 100000 in
set_option maxHeartbeats 400000 in
theorem rput_yes (n : Nat) (m : Nat) (w : World) (h1 : 1 ≤ m) (h2 : m ≤ 8) (hn : n < 18446744073709551616) :
    Calls Try.prog 104 #[.int .u64 n, .int .i64 m] w fun e w' => ∃ v, e = .returned v ∧ w'.ownsRow w.heap.size 5 1 v m (bv (be m n)) ∧ Below w.heap.size w w' := by
  obtain ⟨i0, hi, hz0, hz1, hz2⟩ := info_parts info5
  have hmk := fun W => run_make_rowN (P := Try.prog) 22 5 i0 _ Try.underlying22 hi hz0 .i64 .i64 m m (Nat.le_refl _) (by rw [hz2]; omega) (by omega) W
  have e0 : (madeCells (Value.int .u8 0).cells (m * i0.size)) = (bv (List.replicate (m - 0) 0 ++ be 0 n)).toArray := by
    rw [hz1]
    apply Array.ext'
    rw [made_bytes]
    simp [be]
  rw [e0] at hmk
  clear e0
  have hblk := Blk.new w 5 (bv (List.replicate (m - 0) 0 ++ be 0 n)).toArray
  have hbel := (Below.refl w.heap.size w).alloc (Nat.le_refl _) (.cells (bv (List.replicate (m - 0) 0 ++ be 0 n)).toArray 5)
  go_enter Try.func104, Try.ntmps104
  go_wp2
  go_loopw [0, 6] (fun x i wr => ∃ k : Nat, k ≤ m ∧ i = .int .i64 (m - k - 1) ∧ x = .int .u64 (n / 256 ^ k : Nat) ∧ Blk wr w.heap.size 5 (bv (List.replicate (m - k) 0 ++ be k n)).toArray ∧ Below w.heap.size w wr ∧ w.heap.size < wr.heap.size) (fun _ i _ => (intOf i + 1).toNat)
  case atStart => exact ⟨0, by omega, by simp, by simp, hblk, hbel, by simp⟩
  case round =>
    obtain ⟨k, hk, rfl, rfl, hb, hbw, hlt0⟩ := hrel
    clear hmk hblk hbel
    have hdiv : n / 256 ^ k < 18446744073709551616 := Nat.lt_of_le_of_lt (Nat.div_le_self _ _) hn
    by_cases hlt : k < m
    · have hz := hb.frozen (m - k - 1)
      have hcl : m - k - 1 < (bv (List.replicate (m - k) 0 ++ be k n)).toArray.size := by simp [bv, be_length]; omega
      have hc := hb.cell (m - k - 1)
      rw [Array.getElem?_eq_getElem hcl] at hc
      obtain ⟨q, hq⟩ : ∃ q, n / 256 ^ k = q := ⟨_, rfl⟩
      have HQ := hide hq
      rw [hq] at hdiv ⊢
      clear hq
      go_wp2
      go_roundw
      case rel =>
        refine ⟨k + 1, by omega, by go_num, ?_, ?_, hbw.setCell (Nat.le_refl _) _, by simpa [World.setCell] using hlt0⟩
        · rw [Nat.pow_succ, ← Nat.div_div_eq_div_mul, HQ.out]; go_num
        · have := hb.set_ (m - k - 1) (.int .u8 ((n / 256 ^ k % 256 : Nat) : Int))
          have h7 : m - k - 1 = m - 1 - k := by omega
          rw [h7] at this ⊢
          rw [be_stepV m k n hlt, HQ.out] at this
          exact this
      case measure => simp [intOf]; omega
    · obtain rfl : k = m := by omega
      go_wp2
      go_ret
      refine ⟨_, rfl, ?_, hbw⟩
      have := Blk.own (w := wr) (g := w.heap.size) (e := 5) (base := w.heap.size) (cap := k) hb (by omega) (by unfold maxLen; omega) (by simp [bv, be_length])
      simpa using this
end Go.Proofs.Ytedacfjkbfgikaa
namespace Go.Proofs.Ytedacfjkbfgikaa
open Go.RowKit
set_option linter.unusedVariables false

set_option maxRecDepth 100000 in
set_option maxHeartbeats 400000 in
theorem rget_no (A : Option Addr) (n c : Nat) (w : World) (h : n < 1 ∨ 8 < n) :
    Calls Try.prog 95 #[.slice A n c] w fun e w' => e = .returned (.tuple #[.int .u64 0, .int .i64 2]) ∧ w = w' := by
  rcases h with h | h
  · go_enter Try.func95, Try.ntmps95
    go_wp2
    go_ret2
    exact ⟨rfl, rfl⟩
  · have h' : ¬ n < 1 := by omega
    go_enter Try.func95, Try.ntmps95
    go_wp2
    go_ret2
    exact ⟨rfl, rfl⟩

set_option maxRecDepth 100000 in
set_option maxHeartbeats 400000 in
theorem rget_yes (A : Option Addr) (n c : Nat) (bs : List UInt8) (w : World) (hn : 1 ≤ n) (hn2 : n ≤ 8) (hr : Rd w A n bs) :
    Calls Try.prog 95 #[.slice A n c] w fun e w' => e = .returned (.tuple #[.int .u64 (numB bs), .int .i64 0]) ∧ w = w' := by
  have hl := hide hr.len
  obtain ⟨ad, hA, _, _⟩ := hr.get (k := 0) (by omega)
  subst hA
  go_enter Try.func95, Try.ntmps95
  go_wp2
  go_loop [4, 5] (fun a i => ∃ k : Nat, k ≤ n ∧ i = .int .i64 k ∧ a = .int .u64 (numB (bs.take k))) (fun _ i => n - (intOf i).toNat)
  case atStart => exact ⟨0, Nat.zero_le _, rfl, rfl⟩
  case round =>
    obtain ⟨k, hk, rfl, rfl⟩ := hrel
    by_cases hlt : k < n
    · obtain ⟨ad', hA, _, hcell⟩ := hr.get hlt
      cases hA
      have h1 := numB_lt7 (bs.take k) (by simp; omega)
      have h2 := (bs.getD k 0).toNat_lt
      have H := hide (numB_take bs k (by have := hl.out; omega))
      generalize numB (bs.take k) = x at *
      generalize (bs.getD k 0).toNat = y at *
      go_wp2
      go_round
      case rel => 
        refine ⟨k + 1, by omega, by go_num, ?_⟩
        rw [H.out]; go_num
      case measure => simp [intOf]; omega
    · go_wp2
      go_ret2
      obtain rfl : k = n := by omega
      rw [List.take_of_length_le (by have := hl.out; omega)]
      exact ⟨rfl, rfl⟩
end Go.Proofs.Ytedacfjkbfgikaa
namespace Go.Proofs.Ytedacfjkbfgikaa
open Go.RowKit
set_option linter.unusedVariables false
theorem rput_ow (n m : Nat) (w : World) (h1 : 1 ≤ m) (h2 : m ≤ 8) (hn : n < 18446744073709551616) : Calls Try.prog 104 #[.int .u64 n, .int .i64 m] w fun e w' => ∃ A c, e = .returned (.slice A m c) ∧ OwB w.heap.size w' A m c (be m n) ∧ Below w.heap.size w w' :=
  (rput_yes n m w h1 h2 hn).mono fun e w' ⟨v, h1, h2, h3⟩ => by
    obtain ⟨A, c, rfl⟩ := own_slice h2
    exact ⟨A, c, h1, h2, h3⟩
theorem rput2 (n : Nat) (w : World) (hn : n < 18446744073709551616) : Calls Try.prog 104 #[.int .u64 (n : Int), .int .i64 2] w fun e w' => ∃ A c, e = .returned (.slice A 2 c) ∧ OwB w.heap.size w' A 2 c (be 2 n) ∧ Below w.heap.size w w' := rput_ow n 2 w (by omega) (by omega) hn
theorem rput4 (n : Nat) (w : World) (hn : n < 18446744073709551616) : Calls Try.prog 104 #[.int .u64 (n : Int), .int .i64 4] w fun e w' => ∃ A c, e = .returned (.slice A 4 c) ∧ OwB w.heap.size w' A 4 c (be 4 n) ∧ Below w.heap.size w w' := rput_ow n 4 w (by omega) (by omega) hn
set_option maxRecDepth 100000 in
set_option maxHeartbeats 2000000 in
theorem rnumber_any (n : Int) (w : World) (h1 : -9223372036854775808 ≤ n) (h2 : n ≤ 9223372036854775807) :
    Calls Try.prog 82 #[.int .i64 n] w fun e w' => ∃ A c, e = .returned (.slice A 4 c) ∧ OwB w.heap.size w' A 4 c (intP n) ∧ Below w.heap.size w w' := by
  have hw : IntKind.u64.wrap n = ((n % 18446744073709551616).toNat : Int) := by simp [IntKind.wrap, IntKind.bits, IntKind.signed]; omega
  have XP := hide (rput4 (n % 18446744073709551616).toNat w (by omega))
  rw [int_be] at XP
  obtain ⟨m, hm⟩ : ∃ m, (n % 18446744073709551616).toNat = m := ⟨_, rfl⟩
  rw [hm] at XP hw
  clear hm h1 h2
  go_enter Try.func82, Try.ntmps82
  go_wp2_with fail
  with_reducible refine XP.out.mono ?_
  rintro e w1 ⟨A, c, rfl, ho, hb⟩
  have HO := hide ho
  have HB := hide hb
  clear ho hb XP
  go_wp2_with fail
  go_ret
  exact ⟨A, c, rfl, HO.out, HB.out⟩
set_option maxRecDepth 100000 in
set_option maxHeartbeats 2000000 in
theorem rtext_any (s : LB) (w : World) (hs : s.length ≤ 1000000) :
    Calls Try.prog 83 #[.string ⟨s.toArray⟩] w fun e w' => ∃ A c, e = .returned (.slice A (2 + s.length) c) ∧ OwB w.heap.size w' A (2 + s.length) c (be 2 s.length ++ s) ∧ Below w.heap.size w w' := by
  obtain ⟨i0, hi, hz0, hz1, hz2⟩ := info_parts infoU8
  have hw : IntKind.u64.wrap (s.length : Int) = (s.length : Int) := by simp [IntKind.wrap, IntKind.bits, IntKind.signed]; omega
  have XP := hide (rput2 s.length w (by omega))
  go_enter Try.func83, Try.ntmps83
  go_wp2_with fail
  with_reducible refine XP.out.mono ?_
  rintro e w1 ⟨A, c, rfl, ho, hb⟩
  have HO := hide ho
  have HB := hide hb
  have hs1 := hb.size
  clear ho hb XP
  go_wp2_with (at_builtin; (refine Lib.wpList_append_own_string _ rfl (.tmp 6) (.tmp 7) 22 9 rfl w.heap.size 5 i0 Try.underlying22 Try.underlying9 hi hz0 hz1 hz2 (.slice A 2 c) 2 (bv (be 2 s.length)) rfl (by exact HO.out) ⟨s.toArray⟩ rfl ?d1 ?d2 ?d3 ?_))
  case d1 => show 2 + s.length ≤ _; unfold maxLen; omega
  case d2 => show 2 + s.length ≤ _; omega
  case d3 => exact hs1
  intro v9 w9 hown9 hg9 hat9
  obtain ⟨A9, c9, rfl⟩ := own_slice hown9
  rw [strc, ← bv_append] at hown9
  have HO9 : Hid (OwB w.heap.size w9 A9 (2 + s.length) c9 (be 2 s.length ++ s)) := hide hown9
  have HB9 : Hid (Below w.heap.size w w9) := hide (HB.out.grown hg9 hs1 (fun g hg => (World.ownsRow.lt HO.out g hg).1))
  clear hown9 hg9 hat9 HO HB
  go_wp2_with fail
  go_ret
  exact ⟨A9, c9, rfl, HO9.out, HB9.out⟩
theorem one_byte (k : Nat) : IntKind.u8.wrap (k : Int) = (((UInt8.ofNat k).toNat : Nat) : Int) := by
  simp [IntKind.wrap, IntKind.bits, IntKind.signed]
theorem be_one (k : Nat) : be 1 k = [UInt8.ofNat k] := by simp [be]
set_option maxRecDepth 100000 in
set_option maxHeartbeats 4000000 in
theorem rlist_any (l : List LB) (A : Option Addr) (n c : Nat) (w : World) (hr : Reads w w.heap.size 1 A n (svs l)) (hn : n ≤ 100000) (hT : (catP (l.map txtP)).length ≤ 500000) :
    Calls Try.prog 84 #[.slice A n c] w fun e w' => ∃ A' c', e = .returned (.slice A' (1 + (catP (l.map txtP)).length) c') ∧ OwB w.heap.size w' A' (1 + (catP (l.map txtP)).length) c' (be 1 l.length ++ catP (l.map txtP)) ∧ Below w.heap.size w w' := by
  obtain ⟨i0, hi, hz0, hz1, hz2⟩ := info_parts infoU8
  have hlen : l.length = n := by have := hr.1; simpa [svs] using this
  have hw := one_byte n
  have HR := hide hr
  have HL := hide hlen
  have HT := hide hT
  have hsl : Try.prog.elem 23 = 9 := by simp [Program.elem, Try.underlying23]
  clear hr hT
  go_enter Try.func84, Try.ntmps84
  have HI0 : Hid (OwB w.heap.size (w.alloc (.cells #[.int .u8 (((UInt8.ofNat n).toNat : Nat) : Int)] 5)) (some ⟨w.heap.size, 0, none⟩) 1 1 (be 1 n)) := hide (by
    rw [be_one]
    exact (Blk.new w 5 #[.int .u8 (((UInt8.ofNat n).toNat : Nat) : Int)]).own (Nat.le_refl _) (cap := 1) (by unfold maxLen; omega) rfl)
  have HB0 := hide ((Below.refl w.heap.size w).alloc (Nat.le_refl _) (.cells #[.int .u8 (((UInt8.ofNat n).toNat : Nat) : Int)] 5))
  generalize UInt8.ofNat n = nb at *
  go_wp2_with fail
  clear hw
  go_loopw [3, 4] (fun s5 s14 wx => ∃ i : Nat, i ≤ n ∧ s14 = .int .i64 (i : Int) ∧ ∃ A2 c2, s5 = .slice A2 (1 + (catP ((l.take i).map txtP)).length) c2 ∧ Hid (OwB w.heap.size wx A2 (1 + (catP ((l.take i).map txtP)).length) c2 (be 1 n ++ catP ((l.take i).map txtP))) ∧ Hid (Below w.heap.size w wx)) (fun _ i _ => n - (intOf i).toNat)
  case atStart => exact ⟨0, Nat.zero_le _, rfl, some ⟨w.heap.size, 0, none⟩, 1, rfl, by simpa [catP] using HI0, HB0⟩
  case round =>
    obtain ⟨i, hi', rfl, A2, c2, rfl, HI, HB⟩ := hrel
    by_cases hlt : i < n
    · have hlt1 : (i : Int) < (n : Int) := by omega
      obtain ⟨ad, u, rfl, hab, hu, hcell⟩ := (HR.out.below HB.out).at_ hlt
      obtain ⟨x, hx⟩ : ∃ x, l[i]? = some x := ⟨l[i]'(by rw [HL.out]; exact hlt), List.getElem?_eq_getElem _⟩
      have hux : u = .string ⟨x.toArray⟩ := by
        have h := hu
        simp only [svs, List.getElem?_map, hx, Option.map_some, Option.some.injEq] at h
        exact h.symm
      subst hux
      have HX := hide hx
      have HC := hide (catP_take txtP l i x hx)
      have hcl := catP_le txtP l (i + 1)
      rw [HC.out, List.length_append] at hcl
      have hT := HT.out
      have hxl := catP_in txtP l i x hx

      have XI := hide (rtext_any x wr (by have := txt_len x; omega))
      have hbd : (catP ((l.take i).map txtP)).length + (2 + x.length) ≤ 500000 := by rw [txt_len] at hcl; omega
      have v1 : IntKind.i64.wrap ((i : Int) + 1) = (i : Int) + 1 := by simp [IntKind.wrap, IntKind.bits, IntKind.signed]; omega
      generalize hL : (catP ((l.take i).map txtP)).length = L at *
      clear hx hu hT
      go_wp2_with fail
      refine XI.out.mono ?_
      rintro e3 w3 ⟨A3, c3, rfl, ho3, hb3⟩
      have hbase : w.heap.size ≤ w3.heap.size := Nat.le_trans HB.out.size hb3.size
      have HI3 : Hid (OwB w.heap.size w3 A2 (1 + L) c2 (be 1 n ++ catP ((l.take i).map txtP))) := hide (HI.out.below hb3)
      have HB3 : Hid (Below w.heap.size w w3) := hide (HB.out.trans (hb3.mono HB.out.size))
      have HO3 := hide ho3
      clear ho3 hb3 XI hcell
      go_wp2_with (at_builtin; (refine wpList_append_any _ rfl (.tmp 15) (.tmp 20) 22 rfl w.heap.size 5 i0 _ 1 1 Try.underlying22 hi hz0 hz1 hz2 rfl (by omega) (.slice A2 (1 + L) c2) (1 + L) (bv (be 1 n ++ catP ((l.take i).map txtP))) rfl (by exact HI3.out) _ A3 (2 + x.length) c3 (bv (txtP x)) rfl (by exact HO3.out.rd) (bv_one _) ?c1 ?c2 ?c3 ?_))
      case c1 => unfold maxLen; omega
      case c2 => omega
      case c3 => exact hbase
      intro v9 w9 hown9 hg9 hat9
      obtain ⟨A9, k9, rfl⟩ := own_slice hown9
      rw [← bv_append, List.append_assoc] at hown9
      simp only [← List.map_take] at hown9
      rw [← HC.out] at hown9
      have hL2 : (catP ((l.take (i + 1)).map txtP)).length = L + (2 + x.length) := by rw [HC.out, List.length_append, hL, txt_len]
      have HI9 : Hid (OwB w.heap.size w9 A9 (1 + (catP ((l.take (i + 1)).map txtP)).length) k9 (be 1 n ++ catP ((l.take (i + 1)).map txtP))) := hide (by rw [hL2, ← Nat.add_assoc]; exact hown9)
      have HB9 : Hid (Below w.heap.size w w9) := hide (HB3.out.grown hg9 hbase (fun g hg => (World.ownsRow.lt HI3.out g hg).1))
      have HL2 := hide hL2
      clear hown9 hg9 hat9 HI3 HB3 HO3 hL2
      go_wp2_with fail
      go_roundw
      case rel => exact ⟨i + 1, by omega, by go_num, A9, k9, by rw [HL2.out]; congr 1 <;> omega, HI9, HB9⟩
      case measure => simp [intOf]; omega
    · obtain rfl : i = n := by omega
      have hlt1 : ¬ (i : Int) < (i : Int) := by omega
      have hall : l.take i = l := List.take_of_length_le (by rw [HL.out]; exact Nat.le_refl _)
      rw [hall] at HI ⊢
      go_wp2_with fail
      go_ret
      exact ⟨A2, c2, rfl, by first | exact HI.out | (rw [HL.out]; exact HI.out), HB.out⟩

end Go.Proofs.Ytedacfjkbfgikaa
namespace Go.Proofs.Ytedacfjkbfgikaa
open Go.RowKit
set_option linter.unusedVariables false
theorem sl_lh (A : Option Addr) (n c q z : Nat) (l h : Int) (hl : l = (q : Int)) (hh : h = (z : Int)) (hq : q ≤ z) (hz : z ≤ c) (W : World) : (Instr.slice 22 (.slice A n c) (some (.int .i64 l)) (some (.int .i64 h)) none).run Try.prog W = .ok (.slice (from_ c q A) (z - q) (c - q)) W := by
  subst hl; subst hh
  have hE : Try.prog.elem 22 = 5 := by simp [Program.elem, Try.underlying22]
  rw [run_slice_lh W 22 A n c (slice_ht Try.underlying22) .i64 .i64 _ _ (by omega) (by omega) (by omega), hE, run_sizeOf_one 5 sizeU8]
  simp [Result.andThen, sliced, from_]
def PAt (B g : Nat) (st : St) (w : World) : Prop := ∃ A n c at_ bs, Blk w g 80 #[.slice A n c, .int .i64 (at_ : Nat), .bool st.2] ∧ Reads w B 1 A n (bv bs) ∧ st.1 = bs.drop at_ ∧ at_ ≤ n ∧ n ≤ c ∧ n ≤ 1000000 ∧ g < B ∧ B ≤ w.heap.size
theorem PAt.keep {B g : Nat} {st : St} {w w' : World} (h : PAt B g st w) (hb : ∀ x, x < B → w'.heap[x]? = w.heap[x]?) (hs : w.heap.size ≤ w'.heap.size) : PAt B g st w' := by
  obtain ⟨A, n, c, a, bs, h1, h2, h3, h4, h5, h6, h7, h8⟩ := h
  exact ⟨A, n, c, a, bs, (hb g h7).trans h1, h2.keep (fun p hp => World.cell?_of_block (hb p.block hp)), h3, h4, h5, h6, h7, Nat.le_trans h8 hs⟩
theorem PAt.lt {B g : Nat} {st : St} {w : World} (h : PAt B g st w) : g < B ∧ B ≤ w.heap.size := by
  obtain ⟨A, n, c, a, bs, h1, h2, h3, h4, h5, h6, h7, h8⟩ := h
  exact ⟨h7, h8⟩
theorem p_no (A : Option Addr) (n c : Nat) (a : Int) (b : Bool) : ∀ v ∈ (#[Value.slice A n c, .int .i64 a, .bool b]).toList, ∀ z, v ≠ .int .u8 z := by
  intro v hv z e
  subst e
  simp at hv
theorem set_p {w : World} {B : Nat} {A : Option Addr} {n : Nat} {xs : LB} (h : Reads w B 1 A n (bv xs)) {g : Nat} {A' : Option Addr} {n' c' : Nat} {a : Int} {b : Bool} (hk : Blk w g 80 #[.slice A' n' c', .int .i64 a, .bool b]) (i : Nat) (u : Value) (hi : i < 3) : Reads (w.setCell ⟨g, i, none⟩ u) B 1 A n (bv xs) := by
  have hc := hk.cell i
  rw [Array.getElem?_eq_getElem (by simpa using hi)] at hc
  exact h.set1 hc (p_no A' n' c' a b _ (by rw [← Array.getElem_toList (by simpa using hi)]; exact List.getElem_mem _)) u
def TkEnd (B g n : Nat) (st : St) (w : World) (e : Ending) (w' : World) : Prop := ∃ A' n' c', e = .returned (.slice A' n' c') ∧ n' ≤ c' ∧ Rd w' A' n' (takeS n st).1 ∧ PAt B g (takeS n st).2 w' ∧ Fr g w w'
set_option maxRecDepth 100000 in
set_option maxHeartbeats 4000000 in
theorem rtake_any (B g n : Nat) (st : St) (w : World) (h : PAt B g st w) (hn : n ≤ 1000000) :
    Calls Try.prog 96 #[.pointer (some ⟨g, 0, none⟩), .int .i64 (n : Int)] w fun e w' => TkEnd B g n st w e w' := by
  obtain ⟨rs, sh⟩ := st
  obtain ⟨A, m, c, a, bs, hk, hr, hrs, ham, hmc, hm, hgB, hBw⟩ := h
  have hlen : bs.length = m := by simpa [bv] using hr.1
  dsimp only at hk hr hlen hrs
  have hrl : rs.length = m - a := by rw [hrs, List.length_drop, hlen]
  have HK := hide hk
  have HR := hide hr
  have HRS := hide hrs
  have c0 := hk.cell 0
  have c1 := hk.cell 1
  have c2 := hk.cell 2
  have f0 := hk.frozen 0
  have f1 := hk.frozen 1
  have f2 := hk.frozen 2
  have hgl := hk.lt
  simp only [List.getElem?_toArray, List.getElem?_cons_succ, List.getElem?_cons_zero] at c0 c1 c2
  have v0 : IntKind.i64.wrap ((m : Int) - (a : Int)) = (m : Int) - (a : Int) := by simp [IntKind.wrap, IntKind.bits, IntKind.signed]; omega
  clear hk hr hrs
  cases sh with
  | true =>
    have HE : Hid (∀ k, TkEnd B g n (rs, true) w (.returned (.slice none 0 0)) ((w.drewN k).setCell ⟨g, 2, none⟩ (.bool true))) := hide (fun k => by
      have hs : takeS n (rs, true) = ([], (rs, true)) := by simp [takeS]
      unfold TkEnd
      rw [hs]
      exact ⟨none, 0, 0, rfl, Nat.le_refl _, Reads.none_, ⟨A, m, c, a, bs, by simpa using (HK.out.drewN k).set_ 2 (.bool true), set_p (HR.out.drewN k) (HK.out.drewN k) 2 _ (by omega), HRS.out, ham, hmc, hm, hgB, by simpa using hBw⟩, ⟨by simp, fun x hx hn => Below.heap_setCell (w.drewN k) ⟨g, 2, none⟩ _ x hn, rfl, rfl, rfl⟩⟩)
    go_enter Try.func96, Try.ntmps96
    go_wp2_with fail
    go_quiet (fail)
    go_wp2_with fail
    go_ret
    exact HE.out _
  | false =>
    by_cases hlt : (m : Int) - (a : Int) < (n : Int)
    · have hlt2 : decide ((m : Int) - (a : Int) < (n : Int)) = true := by simp; omega
      have HE : Hid (∀ k, TkEnd B g n (rs, false) w (.returned (.slice none 0 0)) ((w.drewN k).setCell ⟨g, 2, none⟩ (.bool true))) := hide (fun k => by
        have hs : takeS n (rs, false) = ([], (rs, true)) := by
          unfold takeS
          rw [if_pos (.inr (by show rs.length < n; omega))]
        unfold TkEnd
        rw [hs]
        exact ⟨none, 0, 0, rfl, Nat.le_refl _, Reads.none_, ⟨A, m, c, a, bs, by simpa using (HK.out.drewN k).set_ 2 (.bool true), set_p (HR.out.drewN k) (HK.out.drewN k) 2 _ (by omega), HRS.out, ham, hmc, hm, hgB, by simpa using hBw⟩, ⟨by simp, fun x hx hn => Below.heap_setCell (w.drewN k) ⟨g, 2, none⟩ _ x hn, rfl, rfl, rfl⟩⟩)
      clear hrl
      go_enter Try.func96, Try.ntmps96
      go_wp2_with fail
      go_quiet (fail)
      go_wp2_with fail
      go_ret
      exact HE.out _
    · have hlt2 : decide ((m : Int) - (a : Int) < (n : Int)) = false := by simp; omega
      have hle : a + n ≤ m := by omega
      have v1 : IntKind.i64.wrap ((a : Int) + (n : Int)) = (a : Int) + (n : Int) := by simp [IntKind.wrap, IntKind.bits, IntKind.signed]; omega
      have v2 : IntKind.i64.wrap ((a : Int) + (n : Int) - (n : Int)) = (a : Int) := by simp [IntKind.wrap, IntKind.bits, IntKind.signed]; omega
      have v3 : IntKind.i64.wrap (a : Int) = (a : Int) := by simp [IntKind.wrap, IntKind.bits, IntKind.signed]; omega
      have v4 : (a : Int) + (n : Int) - (n : Int) = (a : Int) := by omega
      have hsl := fun W => sl_lh A m c a (a + n) (a : Int) ((a : Int) + (n : Int)) rfl (by omega) (by omega) (by omega) W
      rw [show a + n - a = n by omega] at hsl
      have kd : ∀ q, Blk ((w.drewN q).setCell ⟨g, 1, none⟩ (.int .i64 ((a : Int) + (n : Int)))) g 80 #[.slice A m c, .int .i64 (((a + n : Nat)) : Int), .bool false] := by
        intro q
        have := (HK.out.drewN q).set_ 1 (.int .i64 ((a : Int) + (n : Int)))
        simpa using this
      have HE : Hid (∀ q k, TkEnd B g n (rs, false) w (.returned (.slice (from_ c a A) n (c - a))) (((w.drewN q).setCell ⟨g, 1, none⟩ (.int .i64 ((a : Int) + (n : Int)))).drewN k)) := hide (fun q k => by
        have hs : takeS n (rs, false) = (rs.take n, (rs.drop n, false)) := by
          unfold takeS
          rw [if_neg (by show ¬ (false = true ∨ rs.length < n); simp; omega)]
        unfold TkEnd
        rw [hs]
        have hR1 := set_p (HR.out.drewN q) (HK.out.drewN q) 1 (.int .i64 ((a : Int) + (n : Int))) (by omega)
        refine ⟨from_ c a A, n, c - a, rfl, by omega, ?_, ⟨A, m, c, a + n, bs, (kd q).drewN k, hR1.drewN k, ?_, by omega, hmc, hm, hgB, by simpa using hBw⟩, ⟨by simp, fun x hx hn => Below.heap_setCell (w.drewN q) ⟨g, 1, none⟩ _ x hn, rfl, rfl, rfl⟩⟩
        · have h2 := rd_to (rd_from hR1 ham hmc) (l := n) (by omega)
          rw [← HRS.out] at h2
          exact (h2.drewN k).more (by simpa using hBw)
        · show rs.drop n = bs.drop (a + n)
          rw [HRS.out, List.drop_drop])
      clear hrl kd
      go_enter Try.func96, Try.ntmps96
      go_wp2_with fail
      go_quiet (fail)
      go_wp2_with fail
      go_quiet (fail)
      go_wp2_with fail
      go_ret
      exact HE.out _ _
end Go.Proofs.Ytedacfjkbfgikaa
namespace Go.Proofs.Ytedacfjkbfgikaa
open Go.RowKit
set_option linter.unusedVariables false
set_option maxRecDepth 100000 in
set_option maxHeartbeats 4000000 in
theorem rnum_any (B g k : Nat) (st : St) (w : World) (h : PAt B g st w) (hk1 : 1 ≤ k) (hk2 : k ≤ 4) :
    Calls Try.prog 58 #[.pointer (some ⟨g, 0, none⟩), .int .i64 (k : Int)] w fun e w' => e = .returned (.int .i64 ((numS k st).1 : Int)) ∧ PAt B g (numS k st).2 w' ∧ Fr g w w' := by
  have XT := hide (rtake_any B g k st w h (by omega))
  unfold TkEnd at XT
  obtain ⟨ht1, ht2⟩ := takeS_le k st
  have hb := numB_lt (takeS k st).1
  have hb2 : (256 : Nat) ^ (takeS k st).1.length ≤ 256 ^ 4 := Nat.pow_le_pow_right (by omega) (by omega)
  have hlt : numB (takeS k st).1 < 4294967296 := Nat.lt_of_lt_of_le hb hb2
  have HS : Hid (numS k st = (numB (takeS k st).1, (takeS k st).2)) := hide rfl
  obtain ⟨r, hr⟩ : ∃ r, takeS k st = r := ⟨_, rfl⟩
  rw [hr] at XT ht1 ht2 hlt HS
  rw [HS.out]
  clear hr h hb hb2 HS
  obtain ⟨x, st2⟩ := r
  dsimp only at XT ht1 ht2 hlt ⊢
  have hw : IntKind.i64.wrap (numB x : Int) = (numB x : Int) := by simp [IntKind.wrap, IntKind.bits, IntKind.signed]; omega
  go_enter Try.func58, Try.ntmps58
  go_wp2_with fail
  with_reducible refine XT.out.mono ?_
  rintro e w1 ⟨A, n, c, rfl, hnc, hrd, hin, hfr⟩
  have HIN := hide hin
  have HFR := hide hfr
  have hlen := hrd.len
  have XG : Hid (Calls Try.prog 95 #[.slice A n c] w1 fun e w' => ∃ q : Int, e = .returned (.tuple #[.int .u64 (numB x : Int), .int .i64 q]) ∧ w1 = w') := hide (by
    by_cases h0 : n = 0
    · have hx : x = [] := List.eq_nil_of_length_eq_zero (by omega)
      subst hx
      refine (rget_no A n c w1 (by omega)).mono ?_
      rintro e w' ⟨rfl, rfl⟩
      exact ⟨_, rfl, rfl⟩
    · refine (rget_yes A n c x w1 (by omega) (by omega) hrd).mono ?_
      rintro e w' ⟨rfl, rfl⟩
      exact ⟨_, rfl, rfl⟩)
  clear hrd hin hfr XT
  go_wp2_with fail
  with_reducible refine XG.out.mono ?_
  rintro e w2 ⟨q, rfl, rfl⟩
  go_wp2_with fail
  go_ret
  exact ⟨rfl, HIN.out, HFR.out⟩
set_option maxRecDepth 10000 in
theorem wrap_lo (n : Nat) (hn : n < 2147483648) : wrap32 (n : Int) = (n : Int) := by
  unfold wrap32 Int.bmod
  rw [show ((4294967296 : Nat) : Int) = 4294967296 from rfl]
  dsimp only
  split <;> omega
set_option maxRecDepth 10000 in
theorem wrap_hi (n : Nat) (hn : n < 4294967296) (hn2 : ¬ n < 2147483648) : wrap32 (n : Int) = (n : Int) - 2147483648 - 2147483648 := by
  unfold wrap32 Int.bmod
  rw [show ((4294967296 : Nat) : Int) = 4294967296 from rfl]
  dsimp only
  split <;> omega
set_option maxRecDepth 100000 in
set_option maxHeartbeats 4000000 in
theorem rwrap_any (n : Nat) (w : World) (hn : n < 4294967296) :
    Calls Try.prog 97 #[.int .i64 (n : Int), .int .i64 32] w fun e w' => e = .returned (.int .i64 (wrap32 (n : Int))) ∧ w = w' := by
  have u1 : IntKind.u64.wrap (n : Int) = (n : Int) := by simp [IntKind.wrap, IntKind.bits, IntKind.signed]; omega
  have u2 : (n : Int).tmod 4294967296 = (n : Int) := Int.tmod_eq_of_lt (by omega) (by omega)
  have u3 : IntKind.i64.wrap (n : Int) = (n : Int) := by simp [IntKind.wrap, IntKind.bits, IntKind.signed]; omega
  by_cases h : n < 2147483648
  · have h1 : ¬ (2147483648 : Int) ≤ (n : Int) := by omega
    rw [wrap_lo n h]
    go_enter Try.func97, Try.ntmps97
    go_wp2_with fail
    go_ret
    exact ⟨rfl, rfl⟩
  · have h1 : (2147483648 : Int) ≤ (n : Int) := by omega
    have u4 : IntKind.i64.wrap ((n : Int) - 2147483648) = (n : Int) - 2147483648 := by simp [IntKind.wrap, IntKind.bits, IntKind.signed]; omega
    have u5 : IntKind.i64.wrap ((n : Int) - 2147483648 - 2147483648) = (n : Int) - 2147483648 - 2147483648 := by simp [IntKind.wrap, IntKind.bits, IntKind.signed]; omega
    rw [wrap_hi n hn h]
    go_enter Try.func97, Try.ntmps97
    go_wp2_with fail
    go_ret
    exact ⟨rfl, rfl⟩
set_option maxRecDepth 100000 in
set_option maxHeartbeats 4000000 in
theorem rint_any (B g : Nat) (st : St) (w : World) (h : PAt B g st w) :
    Calls Try.prog 60 #[.pointer (some ⟨g, 0, none⟩)] w fun e w' => e = .returned (.int .i64 (intS st).1) ∧ PAt B g (intS st).2 w' ∧ Fr g w w' := by
  have XN : Hid (Calls Try.prog 58 #[.pointer (some ⟨g, 0, none⟩), .int .i64 4] w fun e w' => e = .returned (.int .i64 ((numS 4 st).1 : Int)) ∧ PAt B g (numS 4 st).2 w' ∧ Fr g w w') := hide (rnum_any B g 4 st w h (by omega) (by omega))
  have hlt := numS_lt 4 st (by omega)
  rw [show (256 : Nat) ^ 4 = 4294967296 by decide] at hlt
  unfold intS
  generalize numS 4 st = r at *
  obtain ⟨m, st2⟩ := r
  dsimp only at XN hlt ⊢
  clear h
  go_enter Try.func60, Try.ntmps60
  go_wp2_with fail
  with_reducible refine XN.out.mono ?_
  rintro e w1 ⟨rfl, hin, hfr⟩
  have HIN := hide hin
  have HFR := hide hfr
  have XW := hide (rwrap_any m w1 hlt)
  clear hin hfr XN hlt
  go_wp2_with fail
  with_reducible refine XW.out.mono ?_
  rintro e w2 ⟨rfl, rfl⟩
  go_wp2_with fail
  go_ret
  exact ⟨rfl, HIN.out, HFR.out⟩
set_option maxRecDepth 100000 in
set_option maxHeartbeats 4000000 in
theorem rtxt_any (B g : Nat) (st : St) (w : World) (h : PAt B g st w) :
    Calls Try.prog 59 #[.pointer (some ⟨g, 0, none⟩)] w fun e w' => e = .returned (.string ⟨(txtS st).1.toArray⟩) ∧ PAt B g (txtS st).2 w' ∧ Fr g w w' := by
  have XN : Hid (Calls Try.prog 58 #[.pointer (some ⟨g, 0, none⟩), .int .i64 2] w fun e w' => e = .returned (.int .i64 ((numS 2 st).1 : Int)) ∧ PAt B g (numS 2 st).2 w' ∧ Fr g w w') := hide (rnum_any B g 2 st w h (by omega) (by omega))
  have hlt := num2_lt st
  unfold txtS
  generalize numS 2 st = r at *
  obtain ⟨m, st2⟩ := r
  dsimp only at XN hlt ⊢
  clear h
  go_enter Try.func59, Try.ntmps59
  go_wp2_with fail
  with_reducible refine XN.out.mono ?_
  rintro e w1 ⟨rfl, hin, hfr⟩
  have HFR := hide hfr
  have XT := hide (rtake_any B g m st2 w1 hin (by omega))
  clear hin hfr XN hlt
  go_wp2_with fail
  with_reducible refine XT.out.mono ?_
  rintro e w2 ⟨A, n, c, rfl, hnc, hrd, hin, hfr⟩
  have HIN := hide hin
  have HFR2 := hide (HFR.out.trans hfr)
  have r1 := run_string_of (P := Try.prog) w2 w2.heap.size 22 9 5 A n c _ Try.underlying22 Try.underlying5 Try.underlying9 hrd
  clear hin hfr XT hrd
  go_wp2_with fail
  go_ret
  exact ⟨rfl, HIN.out, HFR2.out⟩
def itemsR {α : Type} (f : St → α × St) : Nat → List α → St → List α × St
  | 0, out, st => (out, st)
  | k + 1, out, st => if st.2 = true then (out, st) else itemsR f k (out ++ [(f st).1]) (f st).2
def listR {α : Type} (f : St → α × St) (st : St) : List α × St := itemsR f (numS 1 st).1 [] (numS 1 st).2
theorem itemsR_bad {α : Type} (f : St → α × St) (k : Nat) (out : List α) (st : St) (h : st.2 = true) : itemsR f k out st = (out, st) := by
  cases k with
  | zero => rfl
  | succ k => unfold itemsR; rw [if_pos h]
theorem itemsR_eq {α : Type} (f : St → α × St) : ∀ (k : Nat) (out : List α) (st : St), st.2 = false → (itemsR f k out st).2.2 = (itemsS f k out st).2.2 ∧ ((itemsS f k out st).2.2 = false → itemsR f k out st = itemsS f k out st)
  | 0, out, st, h => ⟨rfl, fun _ => rfl⟩
  | k + 1, out, st, h => by
    unfold itemsR itemsS
    rw [if_neg (by rw [h]; simp)]
    by_cases hc : (f st).2.2 = true
    · rw [if_pos hc, itemsR_bad f k _ _ hc]
      exact ⟨rfl, fun hh => by dsimp only at hh; rw [hc] at hh; cases hh⟩
    · rw [if_neg hc]
      exact itemsR_eq f k _ _ (by simpa using hc)
theorem listR_eq {α : Type} (f : St → α × St) (hs : ∀ st, st.2 = true → (f st).2.2 = true) (st : St) : (listR f st).2.2 = (listS f st).2.2 ∧ ((listS f st).2.2 = false → listR f st = listS f st) := by
  unfold listR listS
  cases hb : (numS 1 st).2.2 with
  | false => exact itemsR_eq f _ _ _ hb
  | true =>
    rw [itemsR_bad f _ _ _ hb]
    have h2 := itemsS_short f hs (numS 1 st).1 [] (numS 1 st).2 hb
    exact ⟨by rw [h2]; exact hb, fun h => by rw [h2] at h; cases h⟩
theorem itemsR_step {α : Type} (f : St → α × St) (k : Nat) (out : List α) (st : St) (h : st.2 = false) : itemsR f (k + 1) out st = itemsR f k (out ++ [(f st).1]) (f st).2 := by
  rw [itemsR, if_neg (by rw [h]; simp)]
set_option maxRecDepth 100000 in
set_option maxHeartbeats 4000000 in
theorem rtxts_any (B g : Nat) (st : St) (w : World) (h : PAt B g st w) :
    Calls Try.prog 61 #[.pointer (some ⟨g, 0, none⟩)] w fun e w' => ∃ A n c, e = .returned (.slice A n c) ∧ w'.ownsRow w.heap.size 9 1 (.slice A n c) n (svs (listR txtS st).1) ∧ PAt B g (listR txtS st).2 w' ∧ Fr g w w' := by
  obtain ⟨i0, hi0, hz0, hz1, hz2⟩ := info_parts infoStr
  have XN : Hid (Calls Try.prog 58 #[.pointer (some ⟨g, 0, none⟩), .int .i64 1] w fun e w' => e = .returned (.int .i64 ((numS 1 st).1 : Int)) ∧ PAt B g (numS 1 st).2 w' ∧ Fr g w w') := hide (rnum_any B g 1 st w h (by omega) (by omega))
  have hlt := num1_lt st
  have hlw := h.lt
  unfold listR
  generalize numS 1 st = r at *
  obtain ⟨N, st1⟩ := r
  dsimp only at XN hlt ⊢
  clear h
  go_enter Try.func61, Try.ntmps61
  go_wp2_with fail
  with_reducible refine XN.out.mono ?_
  rintro e w1 ⟨rfl, hin, hfr⟩
  have HIN := hide hin
  have HFR := hide hfr
  clear hin hfr XN
  go_wp2_with fail
  go_loopw [3, 5] (fun s5 s8 wx => ∃ i : Nat, i ≤ N ∧ s8 = .int .i64 (i : Int) ∧ ∃ A2 c2, s5 = .slice A2 i c2 ∧ ∃ (out : List LB) (sti : St), Hid (wx.ownsRow w.heap.size 9 1 (.slice A2 i c2) i (svs out)) ∧ Hid (PAt B g sti wx) ∧ Hid (Fr g w wx) ∧ Hid (itemsR txtS N [] st1 = itemsR txtS (N - i) out sti)) (fun _ i _ => N - (intOf i).toNat)
  case atStart => exact ⟨0, Nat.zero_le _, rfl, none, 0, rfl, [], st1, hide (World.ownsRow_nil _ _ _ _), HIN, HFR, hide rfl⟩
  case round =>
    obtain ⟨i, hi', rfl, A2, c2, rfl, out, sti, HO, HI, HF, HE⟩ := hrel
    obtain ⟨IA, IM, IC, Iat, Ibs, hIk, -⟩ := HI.out
    have cb2 := hIk.cell 2
    have hgl := hIk.lt
    simp only [List.getElem?_toArray, List.getElem?_cons_succ, List.getElem?_cons_zero] at cb2
    clear hIk
    by_cases hlt1 : i < N
    · have hlt2 : (i : Int) < (N : Int) := by omega
      cases hsb : sti.2 with
      | true =>
        rw [hsb] at cb2
        have HEb : Hid (itemsR txtS N [] st1 = (out, sti)) := hide (by rw [HE.out, itemsR_bad _ _ _ _ hsb])
        clear hsb
        go_wp2_with fail
        go_ret
        refine ⟨A2, i, c2, rfl, ?_, ?_, HF.out⟩
        · rw [HEb.out]
          exact HO.out
        · rw [HEb.out]
          exact HI.out
      | false =>
        rw [hsb] at cb2
        obtain ⟨k, hk⟩ : ∃ k, N - i = k + 1 := ⟨N - i - 1, by omega⟩
        have HE2 : Hid (itemsR txtS N [] st1 = itemsR txtS k (out ++ [(txtS sti).1]) (txtS sti).2) := hide (by rw [HE.out, hk, itemsR_step _ _ _ _ hsb])
        have XC := hide (rtxt_any B g sti wr HI.out)
        have v1 : IntKind.i64.wrap ((i : Int) + 1) = (i : Int) + 1 := by simp [IntKind.wrap, IntKind.bits, IntKind.signed]; omega
        generalize txtS sti = r at *
        obtain ⟨x, sj⟩ := r
        dsimp only at XC HE2
        clear hsb
        go_wp2_with fail
        refine XC.out.mono ?_
        rintro e3 w3 ⟨rfl, hin, hfr⟩
        have hbase : w.heap.size ≤ w3.heap.size := Nat.le_trans HF.out.1 hfr.1
        have HO3 := hide (own_at HO.out (fun y hy hy2 => hfr.2 y hy2 (by omega)))
        have HF3 := hide (HF.out.trans hfr)
        have HIN3 := hide hin
        have hr1 := one_str w3 x
        have hO1 := World.ownsRow.alloc HO3.out (.cells #[.string ⟨x.toArray⟩] 9)
        clear hin hfr XC cb2 hgl
        go_wp2_with (at_builtin; (refine wpList_append_any _ rfl (.tmp 20) (.tmp 23) 23 rfl w.heap.size 9 i0 _ 1 16 Try.underlying23 hi0 hz0 hz1 hz2 rfl (by omega) (.slice A2 i c2) i (svs out) rfl hO1 (w3.heap.size + 1) (some ⟨w3.heap.size, 0, none⟩) 1 1 (svs [x]) rfl hr1 (svs_one _) ?c1 ?c2 ?c3 ?_))
        case c1 => unfold maxLen; omega
        case c2 => omega
        case c3 => simp; omega
        intro v9 w9 hown9 hg9 hat9
        obtain ⟨A9, k9, rfl⟩ := own_slice hown9
        rw [svs_snoc] at hown9
        have HO9 := hide hown9
        have hlow : ∀ y, y < w.heap.size → w9.heap[y]? = w3.heap[y]? := fun y hy => by
          rw [hg9.block y (by simp; omega) (by
            intro h
            have := (World.ownsRow.lt HO3.out y h.symm).1
            omega)]
          exact Below.heap_alloc w3 _ y (by omega)
        have hs9 : w3.heap.size ≤ w9.heap.size := by have := hg9.size; simp at this; omega
        have HI9 := hide (HIN3.out.keep (fun y hy => hlow y (by omega)) hs9)
        have HF9 : Hid (Fr g w w9) := hide ⟨Nat.le_trans hbase hs9, fun y hy hn => (hlow y hy).trans (HF3.out.2 y hy hn), hg9.os.trans HF3.out.os, hg9.tape.trans HF3.out.tape, hg9.output.trans HF3.out.output⟩
        have HE9 : Hid (itemsR txtS N [] st1 = itemsR txtS (N - (i + 1)) (out ++ [x]) sj) := hide (by rw [HE2.out, show N - (i + 1) = k by omega])
        clear hown9 hg9 hat9 hO1 hr1 hlow HIN3 HF3 HO3
        go_wp2_with fail
        clear v1
        go_roundw
        case rel => exact ⟨i + 1, by omega, by go_num, A9, k9, rfl, out ++ [x], sj, HO9, HI9, HF9, HE9⟩
        case measure => simp [intOf]; omega
    · obtain rfl : i = N := by omega
      have hlt2 : ¬ (i : Int) < (i : Int) := by omega
      have HE2 : Hid (itemsR txtS i [] st1 = (out, sti)) := hide (by rw [HE.out, Nat.sub_self]; rfl)
      clear cb2
      go_wp2_with fail
      go_ret
      refine ⟨A2, i, c2, rfl, ?_, ?_, HF.out⟩
      · rw [HE2.out]
        exact HO.out
      · rw [HE2.out]
        exact HI.out
set_option maxRecDepth 100000 in
set_option maxHeartbeats 4000000 in
theorem rints_any (B g : Nat) (st : St) (w : World) (h : PAt B g st w) :
    Calls Try.prog 62 #[.pointer (some ⟨g, 0, none⟩)] w fun e w' => ∃ A n c, e = .returned (.slice A n c) ∧ w'.ownsRow w.heap.size 3 1 (.slice A n c) n (ivs (listR intS st).1) ∧ PAt B g (listR intS st).2 w' ∧ Fr g w w' := by
  obtain ⟨i0, hi0, hz0, hz1, hz2⟩ := info_parts infoIntP
  have XN : Hid (Calls Try.prog 58 #[.pointer (some ⟨g, 0, none⟩), .int .i64 1] w fun e w' => e = .returned (.int .i64 ((numS 1 st).1 : Int)) ∧ PAt B g (numS 1 st).2 w' ∧ Fr g w w') := hide (rnum_any B g 1 st w h (by omega) (by omega))
  have hlt := num1_lt st
  have hlw := h.lt
  unfold listR
  generalize numS 1 st = r at *
  obtain ⟨N, st1⟩ := r
  dsimp only at XN hlt ⊢
  clear h
  go_enter Try.func62, Try.ntmps62
  go_wp2_with fail
  with_reducible refine XN.out.mono ?_
  rintro e w1 ⟨rfl, hin, hfr⟩
  have HIN := hide hin
  have HFR := hide hfr
  clear hin hfr XN
  go_wp2_with fail
  go_loopw [3, 5] (fun s5 s8 wx => ∃ i : Nat, i ≤ N ∧ s8 = .int .i64 (i : Int) ∧ ∃ A2 c2, s5 = .slice A2 i c2 ∧ ∃ (out : List Int) (sti : St), Hid (wx.ownsRow w.heap.size 3 1 (.slice A2 i c2) i (ivs out)) ∧ Hid (PAt B g sti wx) ∧ Hid (Fr g w wx) ∧ Hid (itemsR intS N [] st1 = itemsR intS (N - i) out sti)) (fun _ i _ => N - (intOf i).toNat)
  case atStart => exact ⟨0, Nat.zero_le _, rfl, none, 0, rfl, [], st1, hide (World.ownsRow_nil _ _ _ _), HIN, HFR, hide rfl⟩
  case round =>
    obtain ⟨i, hi', rfl, A2, c2, rfl, out, sti, HO, HI, HF, HE⟩ := hrel
    obtain ⟨IA, IM, IC, Iat, Ibs, hIk, -⟩ := HI.out
    have cb2 := hIk.cell 2
    have hgl := hIk.lt
    simp only [List.getElem?_toArray, List.getElem?_cons_succ, List.getElem?_cons_zero] at cb2
    clear hIk
    by_cases hlt1 : i < N
    · have hlt2 : (i : Int) < (N : Int) := by omega
      cases hsb : sti.2 with
      | true =>
        rw [hsb] at cb2
        have HEb : Hid (itemsR intS N [] st1 = (out, sti)) := hide (by rw [HE.out, itemsR_bad _ _ _ _ hsb])
        clear hsb
        go_wp2_with fail
        go_ret
        refine ⟨A2, i, c2, rfl, ?_, ?_, HF.out⟩
        · rw [HEb.out]
          exact HO.out
        · rw [HEb.out]
          exact HI.out
      | false =>
        rw [hsb] at cb2
        obtain ⟨k, hk⟩ : ∃ k, N - i = k + 1 := ⟨N - i - 1, by omega⟩
        have HE2 : Hid (itemsR intS N [] st1 = itemsR intS k (out ++ [(intS sti).1]) (intS sti).2) := hide (by rw [HE.out, hk, itemsR_step _ _ _ _ hsb])
        have XC := hide (rint_any B g sti wr HI.out)
        have v1 : IntKind.i64.wrap ((i : Int) + 1) = (i : Int) + 1 := by simp [IntKind.wrap, IntKind.bits, IntKind.signed]; omega
        generalize intS sti = r at *
        obtain ⟨x, sj⟩ := r
        dsimp only at XC HE2
        clear hsb
        go_wp2_with fail
        refine XC.out.mono ?_
        rintro e3 w3 ⟨rfl, hin, hfr⟩
        have hbase : w.heap.size ≤ w3.heap.size := Nat.le_trans HF.out.1 hfr.1
        have HO3 := hide (own_at HO.out (fun y hy hy2 => hfr.2 y hy2 (by omega)))
        have HF3 := hide (HF.out.trans hfr)
        have HIN3 := hide hin
        have hr1 := one_int w3 x
        have hO1 := World.ownsRow.alloc HO3.out (.cells #[.int .i64 x] 3)
        clear hin hfr XC cb2 hgl
        go_wp2_with (at_builtin; (refine wpList_append_any _ rfl (.tmp 20) (.tmp 23) 24 rfl w.heap.size 3 i0 _ 1 8 Try.underlying24 hi0 hz0 hz1 hz2 rfl (by omega) (.slice A2 i c2) i (ivs out) rfl hO1 (w3.heap.size + 1) (some ⟨w3.heap.size, 0, none⟩) 1 1 (ivs [x]) rfl hr1 (ivs_one _) ?c1 ?c2 ?c3 ?_))
        case c1 => unfold maxLen; omega
        case c2 => omega
        case c3 => simp; omega
        intro v9 w9 hown9 hg9 hat9
        obtain ⟨A9, k9, rfl⟩ := own_slice hown9
        rw [ivs_snoc] at hown9
        have HO9 := hide hown9
        have hlow : ∀ y, y < w.heap.size → w9.heap[y]? = w3.heap[y]? := fun y hy => by
          rw [hg9.block y (by simp; omega) (by
            intro h
            have := (World.ownsRow.lt HO3.out y h.symm).1
            omega)]
          exact Below.heap_alloc w3 _ y (by omega)
        have hs9 : w3.heap.size ≤ w9.heap.size := by have := hg9.size; simp at this; omega
        have HI9 := hide (HIN3.out.keep (fun y hy => hlow y (by omega)) hs9)
        have HF9 : Hid (Fr g w w9) := hide ⟨Nat.le_trans hbase hs9, fun y hy hn => (hlow y hy).trans (HF3.out.2 y hy hn), hg9.os.trans HF3.out.os, hg9.tape.trans HF3.out.tape, hg9.output.trans HF3.out.output⟩
        have HE9 : Hid (itemsR intS N [] st1 = itemsR intS (N - (i + 1)) (out ++ [x]) sj) := hide (by rw [HE2.out, show N - (i + 1) = k by omega])
        clear hown9 hg9 hat9 hO1 hr1 hlow HIN3 HF3 HO3
        go_wp2_with fail
        clear v1
        go_roundw
        case rel => exact ⟨i + 1, by omega, by go_num, A9, k9, rfl, out ++ [x], sj, HO9, HI9, HF9, HE9⟩
        case measure => simp [intOf]; omega
    · obtain rfl : i = N := by omega
      have hlt2 : ¬ (i : Int) < (i : Int) := by omega
      have HE2 : Hid (itemsR intS i [] st1 = (out, sti)) := hide (by rw [HE.out, Nat.sub_self]; rfl)
      clear cb2
      go_wp2_with fail
      go_ret
      refine ⟨A2, i, c2, rfl, ?_, ?_, HF.out⟩
      · rw [HE2.out]
        exact HO.out
      · rw [HE2.out]
        exact HI.out
end Go.Proofs.Ytedacfjkbfgikaa
namespace Go.Proofs.Ytedacfjkbfgikaa
open Go.RowKit
set_option linter.unusedVariables false
def rdA2 (p : RQ × St) : RQ × St := ({ p.1 with args := (listR txtS p.2).1 }, (listR txtS p.2).2)
def rdE2 (p : RQ × St) : RQ × St := ({ p.1 with env := (listR txtS p.2).1 }, (listR txtS p.2).2)
def rdF2 (p : RQ × St) : RQ × St := ({ p.1 with fds := (listR intS p.2).1 }, (listR intS p.2).2)
def rdC (c : UInt8) (p : RQ × St) : RQ × St := if c = 80 then rdP p else if c = 81 then rdP2 p else if c = 72 then rdH p else if c = 78 then rdN p else if c = 70 then rdFl p else if c = 68 then rdD p else if c = 65 then rdA2 p else if c = 69 then rdE2 p else rdF2 p
def rdS (c : UInt8) (p : RQ × St) : RQ × St := if c = 80 then rdP p else if c = 81 then rdP2 p else if c = 72 then rdH p else if c = 78 then rdN p else if c = 70 then rdFl p else if c = 68 then rdD p else if c = 65 then rdA p else if c = 69 then rdE p else rdF p
def foldC (f : UInt8 → RQ × St → RQ × St) (l : LB) (p : RQ × St) : RQ × St := l.foldl (fun q c => f c q) p
theorem listS_short {α : Type} (f : St → α × St) (hs : ∀ st, st.2 = true → (f st).2.2 = true) (st : St) (h : st.2 = true) : (listS f st).2.2 = true := itemsS_short f hs _ _ _ (numS_short h)
theorem rdS_bad (c : UInt8) (p : RQ × St) (h : p.2.2 = true) : (rdS c p).2.2 = true := by
  unfold rdS
  split
  · show (txtS p.2).2.2 = true; exact txtS_short h
  split
  · show (txtS p.2).2.2 = true; exact txtS_short h
  split
  · show (intS p.2).2.2 = true; exact intS_short h
  split
  · show (intS p.2).2.2 = true; exact intS_short h
  split
  · show (intS p.2).2.2 = true; exact intS_short h
  split
  · show (txtS p.2).2.2 = true; exact txtS_short h
  split
  · exact listS_short txtS (fun st h => txtS_short h) _ h
  split
  · exact listS_short txtS (fun st h => txtS_short h) _ h
  · exact listS_short intS (fun st h => intS_short h) _ h
theorem rdC_flag (c : UInt8) (p : RQ × St) : (rdC c p).2.2 = (rdS c p).2.2 ∧ ((rdS c p).2.2 = false → rdC c p = rdS c p) := by
  have t := listR_eq txtS (fun st h => txtS_short h) p.2
  have n := listR_eq intS (fun st h => intS_short h) p.2
  unfold rdC rdS
  repeat' split
  all_goals first
    | exact ⟨rfl, fun _ => rfl⟩
    | exact ⟨t.1, fun h => by unfold rdA2 rdA; rw [t.2 h]⟩
    | exact ⟨t.1, fun h => by unfold rdE2 rdE; rw [t.2 h]⟩
    | exact ⟨n.1, fun h => by unfold rdF2 rdF; rw [n.2 h]⟩
theorem fold_bad : ∀ (l : LB) (p : RQ × St), p.2.2 = true → (foldC rdS l p).2.2 = true
  | [], p, h => h
  | c :: l, p, h => fold_bad l _ (rdS_bad c p h)
theorem fold_flag : ∀ (l : LB) (p q : RQ × St), p.2.2 = q.2.2 → (q.2.2 = false → p = q) → (foldC rdC l p).2.2 = (foldC rdS l q).2.2 ∧ ((foldC rdS l q).2.2 = false → foldC rdC l p = foldC rdS l q)
  | [], p, q, h1, h2 => ⟨h1, h2⟩
  | c :: l, p, q, h1, h2 => by
    refine fold_flag l (rdC c p) (rdS c q) ?_ ?_
    · cases hq : q.2.2 with
      | false => rw [h2 hq]; exact (rdC_flag c q).1
      | true =>
        rw [hq] at h1
        rw [(rdC_flag c p).1, rdS_bad c p h1, rdS_bad c q hq]
    · intro h
      have hq : q.2.2 = false := by
        cases hq : q.2.2 with
        | false => rfl
        | true => rw [rdS_bad c q hq] at h; cases h
      rw [h2 hq]
      exact (rdC_flag c q).2 h
theorem fold_dec (op : Int) (h1 : 1 ≤ op) (h2 : op ≤ 16) (st : St) : foldC rdS (fieldsP op) (zQ op, st) = decX (reqU op).1 op st := by
  rcases ops16 h1 h2 with rfl | rfl | rfl | rfl | rfl | rfl | rfl | rfl | rfl | rfl | rfl | rfl | rfl | rfl | rfl | rfl <;> kernel_rfl
def refQ (bs : LB) : RQ × St := foldC rdC (fieldsP (numS 1 (bs, false)).1) (zQ (numS 1 (bs, false)).1, (numS 1 (bs, false)).2)
def refD (bs : LB) : Option RQ := if (!(refQ bs).2.2 && ((refQ bs).1.ok && (encQ (refQ bs).1 == bs))) = true then some (refQ bs).1 else none
theorem numS_one (b : UInt8) (rest : LB) : numS 1 (b :: rest, false) = (b.toNat, (rest, false)) := by
  unfold numS takeS
  rw [if_neg (by simp)]
  simp [numB]
theorem req_in0 {op : Int} (h1 : 1 ≤ op) (h2 : op ≤ 16) : (op, (reqU op).1) ∈ reqL ∧ (reqU op).2 = true := by
  rcases ops16 h1 h2 with rfl | rfl | rfl | rfl | rfl | rfl | rfl | rfl | rfl | rfl | rfl | rfl | rfl | rfl | rfl | rfl <;> exact ⟨by decide, rfl⟩
theorem refD_eq (bs : LB) : refD bs = decP bs := by
  cases bs with
  | nil => kernel_rfl
  | cons b rest =>
    have hb := b.toNat_lt
    unfold refD refQ decP
    rw [numS_one]
    dsimp only
    by_cases hop : 1 ≤ (b.toNat : Int) ∧ (b.toNat : Int) ≤ 16
    · obtain ⟨hm, hk⟩ := req_in0 hop.1 hop.2
      rw [if_pos hk]
      obtain ⟨f1, f2⟩ := fold_flag (fieldsP (b.toNat : Int)) (zQ (b.toNat : Int), (rest, false)) _ rfl (fun _ => rfl)
      rw [fold_dec _ hop.1 hop.2] at f1 f2
      unfold decV
      have hback := fun r' (h : (decX (reqU (b.toNat : Int)).1 (b.toNat : Int) (rest, false)).2 = (r', false)) => decX_back _ _ _ _ h
      cases hbad : (decX (reqU (b.toNat : Int)).1 (b.toNat : Int) (rest, false)).2.2 with
      | true =>
        rw [f1, hbad]
        simp
      | false =>
        rw [f2 hbad, hbad]
        generalize decX (reqU (b.toNat : Int)).1 (b.toNat : Int) (rest, false) = X at *
        obtain ⟨r, r', fl⟩ := X
        dsimp only at hbad hback ⊢
        subst hbad
        obtain ⟨e1, e2, e3, e4⟩ := hback r' rfl
        injection e1 with e1
        have hE : (encQ r == b :: rest) = r'.isEmpty := by
          unfold encQ
          rw [e4, e1]
          have hob : opB (b.toNat : Int) = b := by unfold opB; simp
          rw [hob]
          cases r' with
          | nil => simp
          | cons x l =>
            have hne : ¬ (b :: catP (encS (reqU (b.toNat : Int)).1 r)) = b :: (catP (encS (reqU (b.toNat : Int)).1 r) ++ x :: l) := by
              intro h
              injection h with _ h
              have := congrArg List.length h
              simp at this
            rw [beq_false_of_ne hne]
            rfl
        rw [hE]
        cases r'.isEmpty <;> cases r.ok <;> rfl
    · have hk : (reqU (b.toNat : Int)).2 = false := by
        cases hk : (reqU (b.toNat : Int)).2 with
        | false => rfl
        | true => exact absurd (op_range hk) hop
      rw [hk, show fieldsP (b.toNat : Int) = [] from if_neg hop]
      have hno : (zQ (b.toNat : Int)).ok = false := by
        unfold RQ.ok
        rw [show (zQ (b.toNat : Int)).op = (b.toNat : Int) from rfl, hk]
        rfl
      show (if (!false && ((zQ (b.toNat : Int)).ok && _)) = true then _ else none) = _
      rw [hno]
      rfl
theorem itemsR_le {α : Type} (f : St → α × St) : ∀ (k : Nat) (out : List α) (st : St), (itemsR f k out st).1.length ≤ out.length + k
  | 0, out, st => Nat.le_refl _
  | k + 1, out, st => by
    unfold itemsR
    split
    · dsimp only; omega
    · have := itemsR_le f k (out ++ [(f st).1]) (f st).2
      simp at this
      omega
theorem listR_le {α : Type} (f : St → α × St) (st : St) : (listR f st).1.length ≤ 255 := by
  have h := itemsR_le f (numS 1 st).1 [] (numS 1 st).2
  have h2 := num1_lt st
  unfold listR
  simp at h
  omega
def lensQ (r : RQ) : Prop := r.args.length ≤ 255 ∧ r.env.length ≤ 255 ∧ r.fds.length ≤ 255
theorem lensI (r : RQ) (x : Int) (h : lensQ r) : lensQ { r with h := x } ∧ lensQ { r with n := x } ∧ lensQ { r with fl := x } := ⟨⟨h.1, h.2.1, h.2.2⟩, ⟨h.1, h.2.1, h.2.2⟩, ⟨h.1, h.2.1, h.2.2⟩⟩
theorem lensT (r : RQ) (x : LB) (h : lensQ r) : lensQ { r with p := x } ∧ lensQ { r with p2 := x } ∧ lensQ { r with d := x } := ⟨⟨h.1, h.2.1, h.2.2⟩, ⟨h.1, h.2.1, h.2.2⟩, ⟨h.1, h.2.1, h.2.2⟩⟩
theorem lens_rdP (p : RQ × St) (h : lensQ p.1) : lensQ (rdP p).1 := (lensT p.1 (txtS p.2).1 h).1
theorem lens_rdP2 (p : RQ × St) (h : lensQ p.1) : lensQ (rdP2 p).1 := (lensT p.1 (txtS p.2).1 h).2.1
theorem lens_rdH (p : RQ × St) (h : lensQ p.1) : lensQ (rdH p).1 := (lensI p.1 (intS p.2).1 h).1
theorem lens_rdN (p : RQ × St) (h : lensQ p.1) : lensQ (rdN p).1 := (lensI p.1 (intS p.2).1 h).2.1
theorem lens_rdFl (p : RQ × St) (h : lensQ p.1) : lensQ (rdFl p).1 := (lensI p.1 (intS p.2).1 h).2.2
theorem lens_rdD (p : RQ × St) (h : lensQ p.1) : lensQ (rdD p).1 := (lensT p.1 (txtS p.2).1 h).2.2
theorem rdC_lens (c : UInt8) (p : RQ × St) (h : lensQ p.1) : lensQ (rdC c p).1 := by
  have k1 := lens_rdP p h
  have k2 := lens_rdP2 p h
  have k3 := lens_rdH p h
  have k4 := lens_rdN p h
  have k5 := lens_rdFl p h
  have k6 := lens_rdD p h
  have k7 : lensQ (rdA2 p).1 := ⟨listR_le txtS p.2, h.2.1, h.2.2⟩
  have k8 : lensQ (rdE2 p).1 := ⟨h.1, listR_le txtS p.2, h.2.2⟩
  have k9 : lensQ (rdF2 p).1 := ⟨h.1, h.2.1, listR_le intS p.2⟩
  unfold rdC
  generalize rdP p = q1 at *
  generalize rdP2 p = q2 at *
  generalize rdH p = q3 at *
  generalize rdN p = q4 at *
  generalize rdFl p = q5 at *
  generalize rdD p = q6 at *
  generalize rdA2 p = q7 at *
  generalize rdE2 p = q8 at *
  generalize rdF2 p = q9 at *
  repeat' split
  all_goals assumption
theorem fold_next (f : UInt8 → RQ × St → RQ × St) (l : LB) (p : RQ × St) (i : Nat) (x : UInt8) (hx : l[i]? = some x) : foldC f (l.take (i + 1)) p = f x (foldC f (l.take i) p) := by
  unfold foldC
  rw [List.take_add_one, hx, List.foldl_append]
  rfl
/-- A row in a block from B on. -/
def FR (B : Nat) (w : World) (D : Option Addr) (n : Nat) (xs : List Value) : Prop := Reads w w.heap.size 1 D n xs ∧ ∀ ad, D = some ad → 0 < n → B ≤ ad.block
theorem FR.nil (B : Nat) (w : World) : FR B w none 0 [] := ⟨Reads.none_, fun ad h => by cases h⟩
theorem FR.keep {B : Nat} {w w' : World} {D : Option Addr} {n : Nat} {xs : List Value} (h : FR B w D n xs) (hk : ∀ x, B ≤ x → x < w.heap.size → w'.heap[x]? = w.heap[x]?) (hs : w.heap.size ≤ w'.heap.size) : FR B w' D n xs := by
  refine ⟨⟨h.1.1, fun h0 => ?_⟩, h.2⟩
  obtain ⟨ad, rfl, hb, hc⟩ := h.1.2 h0
  refine ⟨ad, rfl, by omega, fun j u hu => ?_⟩
  rw [← hc j u hu]
  refine World.cell?_of_block ?_
  rw [block_of_add]
  exact hk _ (h.2 ad rfl h0) hb
theorem FR.own {B : Nat} {w : World} {e : TypeId} {D : Option Addr} {n c : Nat} {xs : List Value} (h : w.ownsRow B e 1 (.slice D n c) n xs) : FR B w D n xs := by
  refine ⟨Reads.of_own h, fun ad hD h0 => ?_⟩
  subst hD
  rcases h.2 with ⟨hv, h1⟩ | ⟨g, cap, cur, hv, hb, -⟩
  · omega
  · injection hv with hv
    injection hv with hv
    rw [hv]
    exact hb
structure DkAt (B gr : Nat) (r : RQ) (w : World) (D A E F : Option Addr) (dn dc an ac en ec fn fc : Nat) : Prop where
  k : Blk w gr 26 (qcs r D A E F dn dc an ac en ec fn fc)
  d : FR B w D dn (bv r.d)
  a : FR B w A an (svs r.args)
  e : FR B w E en (svs r.env)
  f : FR B w F fn (ivs r.fds)
def RK (w0 : World) (b B g gr : Nat) (q : RQ × St) (w : World) : Prop := PAt B g q.2 w ∧ (∃ D dn dc A an ac E en ec F fn fc, DkAt B gr q.1 w D A E F dn dc an ac en ec fn fc) ∧ Below b w0 w ∧ gr < B ∧ b ≤ g ∧ b ≤ gr
theorem RK.ne {w0 : World} {b B g gr : Nat} {q : RQ × St} {w : World} (h : RK w0 b B g gr q w) : gr ≠ g := by
  obtain ⟨⟨A, n, c, a, bs, h1, -⟩, ⟨D, dn, dc, A', an, ac, E, en, ec, F, fn, fc, h2⟩, -⟩ := h
  exact h2.k.ne_ h1 (by decide)
theorem RK.fr {w0 : World} {b B g gr : Nat} {r : RQ} {st st' : St} {w w' : World} (h : RK w0 b B g gr (r, st) w) (hi : PAt B g st' w') (hf : Fr g w w') : RK w0 b B g gr (r, st') w' := by
  have hne := h.ne
  obtain ⟨h1, ⟨D, dn, dc, A, an, ac, E, en, ec, F, fn, fc, h2⟩, h4, h5, h6, h7⟩ := h
  have hg := h1.lt
  have hk : ∀ x, B ≤ x → x < w.heap.size → w'.heap[x]? = w.heap[x]? := fun x hx hl => hf.block x hl (by omega)
  exact ⟨hi, ⟨D, dn, dc, A, an, ac, E, en, ec, F, fn, fc, ⟨(hf.block gr h2.k.lt hne).trans h2.k, h2.d.keep hk hf.size, h2.a.keep hk hf.size, h2.e.keep hk hf.size, h2.f.keep hk hf.size⟩⟩, h4.trans ⟨hf.os, hf.tape, hf.output, hf.size, fun x hx => hf.block x (by omega) (by omega)⟩, h5, h6, h7⟩
theorem RK.set_ {w0 : World} {b B g gr : Nat} {r r' : RQ} {st : St} {w : World} (h : RK w0 b B g gr (r, st) w) (i : Nat) (u : Value) (hi : i < 10)
    (hr : ∀ D dn dc A an ac E en ec F fn fc, DkAt B gr r w D A E F dn dc an ac en ec fn fc → ∃ D' dn' dc' A' an' ac' E' en' ec' F' fn' fc', (qcs r D A E F dn dc an ac en ec fn fc).setIfInBounds i u = qcs r' D' A' E' F' dn' dc' an' ac' en' ec' fn' fc' ∧ FR B w D' dn' (bv r'.d) ∧ FR B w A' an' (svs r'.args) ∧ FR B w E' en' (svs r'.env) ∧ FR B w F' fn' (ivs r'.fds)) :
    RK w0 b B g gr (r', st) (w.setCell ⟨gr, i, none⟩ u) := by
  have hne := h.ne
  obtain ⟨h1, ⟨D, dn, dc, A, an, ac, E, en, ec, F, fn, fc, h2⟩, h4, h5, h6, h7⟩ := h
  obtain ⟨D', dn', dc', A', an', ac', E', en', ec', F', fn', fc', m1, m2, m3, m4, m5⟩ := hr D dn dc A an ac E en ec F fn fc h2
  obtain ⟨IA, In, Ic, Iat, Ibs, n1, n2, n3, n4, n5, n6, n7, n8⟩ := h1
  have hk : ∀ x, B ≤ x → x < w.heap.size → (w.setCell ⟨gr, i, none⟩ u).heap[x]? = w.heap[x]? := fun x hx hl => Below.heap_setCell w ⟨gr, i, none⟩ u x (by show x ≠ gr; omega)
  refine ⟨⟨IA, In, Ic, Iat, Ibs, n1.far (p := ⟨gr, i, none⟩) (fun e => hne e.symm) u, reads_blk n2 h2.k (qcs_no _ _ _ _ _ _ _ _ _ _ _ _ _) i u (by simpa [qcs] using hi), n3, n4, n5, n6, n7, by simpa using n8⟩, ⟨D', dn', dc', A', an', ac', E', en', ec', F', fn', fc', ⟨m1 ▸ h2.k.set_ i u, m2.keep hk (by simp), m3.keep hk (by simp), m4.keep hk (by simp), m5.keep hk (by simp)⟩⟩, h4.setCell (by exact h7) u, h5, h6, h7⟩
theorem RK.cell {w0 : World} {b B g gr : Nat} {q : RQ × St} {w : World} (h : RK w0 b B g gr q w) : ∃ v1 v2 v3 v4 v5 v6 v7 v8 v9, Blk w gr 26 #[.int .i64 q.1.op, v1, v2, v3, v4, v5, v6, v7, v8, v9] := by
  obtain ⟨_, ⟨D, dn, dc, A, an, ac, E, en, ec, F, fn, fc, h2⟩, -⟩ := h
  exact ⟨_, _, _, _, _, _, _, _, _, h2.k⟩
theorem conv_rd (s : LB) (W : World) : ∃ W' cap, (convert 9 22 (.string ⟨s.toArray⟩)).run Try.prog W = .ok (.slice (some ⟨W.heap.size, 0, none⟩) s.length cap) W' ∧ Reads W' W'.heap.size 1 (some ⟨W.heap.size, 0, none⟩) s.length (bv s) ∧ Below W.heap.size W W' := by
  have h := Lib.run_convert_string_bytes (P := Try.prog) W 9 22 5 ⟨s.toArray⟩ Try.underlying9 Try.underlying22 Try.underlying5
  refine ⟨_, _, h, ⟨by rw [bv_length]; omega, fun _ => ⟨_, rfl, ?_, ?_⟩⟩, Lib.bytesWorld_below W 5 _⟩
  · have := Lib.bytesWorld_at_new W 5 ⟨s.toArray⟩
    rcases Nat.lt_or_ge W.heap.size (Lib.bytesWorld W 5 ⟨s.toArray⟩).heap.size with h | h
    · exact h
    · rw [Array.getElem?_eq_none h] at this; cases this
  · intro j u hu
    rw [at_add, Nat.zero_add, cell_of_row _ _ j _ 5 _ (Lib.bytesWorld_at_new W 5 ⟨s.toArray⟩)]
    unfold Lib.bytesCells
    have hj : j < s.length := by
      rcases Nat.lt_or_ge j s.length with h | h
      · exact h
      · rw [List.getElem?_eq_none (by rw [bv_length]; omega)] at hu; cases hu
    rw [Array.getElem?_append_left (by simpa using hj)]
    simpa [bv] using hu
end Go.Proofs.Ytedacfjkbfgikaa
namespace Go.Proofs.Ytedacfjkbfgikaa
open Go.RowKit
set_option linter.unusedVariables false
theorem rep_in {op : Int} (h1 : 1 ≤ op) (h2 : op ≤ 16) : (op, (repU op).1) ∈ repL ∧ (repU op).2 = true := by
  rcases ops16 h1 h2 with rfl | rfl | rfl | rfl | rfl | rfl | rfl | rfl | rfl | rfl | rfl | rfl | rfl | rfl | rfl | rfl <;> exact ⟨by decide, rfl⟩
theorem rep_out {op : Int} (h : ¬ (1 ≤ op ∧ op ≤ 16)) : (repU op).2 = false := by
  unfold repU repL
  simp only [useD]
  repeat rw [if_neg (by omega)]
theorem rep_range {op : Int} (h : (repU op).2 = true) : 1 ≤ op ∧ op ≤ 16 := by
  by_cases h1 : 1 ≤ op ∧ op ≤ 16
  · exact h1
  · rw [rep_out h1] at h
    cases h
def Lr (op : Int) (r : RP) : LB := if r.err = 0 then repliesP op else []
def okF (e : Int × LB) (b1 b2 b3 b4 b5 : Bool) : Bool := (bits .andNot .i64 (usedC b1 b2 b3 b4 b5) e.1 == 0) == !((!hasC 72 e.2 && b2) || (!hasC 73 e.2 && b3) || (!hasC 78 e.2 && b1) || (!hasC 68 e.2 && b4) || (!hasC 83 e.2 && b5))
theorem okF_all : (((0, ([] : LB)) :: repL.map fun e => (e.2, repliesP e.1)).all fun e => allB fun b1 => allB fun b2 => allB fun b3 => allB fun b4 => allB fun b5 => okF e b1 b2 b3 b4 b5) = true := by kernel_rfl
theorem eff_in (op : Int) (r : RP) (h1 : 1 ≤ op) (h2 : op ≤ 16) : (r.eff (repU op).1, Lr op r) ∈ ((0, ([] : LB)) :: repL.map fun e => (e.2, repliesP e.1)) := by
  unfold RP.eff Lr
  by_cases h : r.err = 0
  · rw [if_pos h, if_pos h]
    exact List.mem_cons_of_mem _ (List.mem_map.2 ⟨_, (rep_in h1 h2).1, rfl⟩)
  · rw [if_neg h, if_neg h]
    exact List.mem_cons_self
theorem rok_eq (op : Int) (r : RP) (h1 : 1 ≤ op) (h2 : op ≤ 16) : r.ok (repU op).1 = (!badV (Lr op r) r.h r.h2 r.n r.d.length r.names.length && (decide (0 ≤ r.err) && decide (r.err ≤ 255) && wideP r.h && wideP r.h2 && wideP r.n && decide (r.d.length ≤ 2048) && txsP 32 r.names 255)) := by
  have h0 := List.all_eq_true.1 okF_all _ (eff_in op r h1 h2)
  have h3 := allB_at (allB_at (allB_at (allB_at (allB_at h0 (r.n != 0)) (r.h != 0)) (r.h2 != 0)) (decide (0 < r.d.length))) (decide (0 < r.names.length))
  unfold okF at h3
  rw [beq_iff_eq] at h3
  dsimp only at h3
  have eU : r.used = usedC (r.n != 0) (r.h != 0) (r.h2 != 0) (decide (0 < r.d.length)) (decide (0 < r.names.length)) := rfl
  have eB : badV (Lr op r) r.h r.h2 r.n r.d.length r.names.length = ((!hasC 72 (Lr op r) && (r.h != 0)) || (!hasC 73 (Lr op r) && (r.h2 != 0)) || (!hasC 78 (Lr op r) && (r.n != 0)) || (!hasC 68 (Lr op r) && decide (0 < r.d.length)) || (!hasC 83 (Lr op r) && decide (0 < r.names.length))) := rfl
  rw [← eB] at h3
  unfold RP.ok
  rw [eU, h3]
  unfold txsP
  have d1 : decide ((r.names.length : Int) ≤ 255) = decide (r.names.length ≤ 255) := decide_eq_decide.2 (by omega)
  rw [d1]
  ac_rfl
theorem rfits_any (op : Int) (r : RP) (D A : Option Addr) (dn dc an ac : Nat) (w : World) (h1 : 1 ≤ op) (h2 : op ≤ 16) (hA : Reads w w.heap.size 1 A an (svs r.names)) (hd : r.d.length = dn) (hn : an ≤ 100000) :
    Calls Try.prog 80 #[.int .i64 op, r.v D A dn dc an ac] w fun e w' => e = .returned (.bool (r.ok (repU op).1)) ∧ Below w.heap.size w w' := by
  have hv := rok_eq op r h1 h2
  rw [hd, ← rd_len hA] at hv
  unfold RP.v
  unfold Lr at hv
  by_cases he : r.err = 0
  · have hz : (r.err == 0) = true := by rw [he]; rfl
    rw [if_pos he] at hv
    rcases ops16 h1 h2 with hq | hq | hq | hq | hq | hq | hq | hq | hq | hq | hq | hq | hq | hq | hq | hq
    · have hlf : repliesP op = [72] := by rw [hq]; rfl
      rw [hlf] at hv
      exact rfit_sH op r.err r.h r.h2 r.n r.names D A dn dc an ac w h1 h2 hz hlf _ hA hn hv
    · have hlf : repliesP op = [] := by rw [hq]; rfl
      rw [hlf] at hv
      exact rfit_s op r.err r.h r.h2 r.n r.names D A dn dc an ac w h1 h2 hz hlf _ hA hn hv
    · have hlf : repliesP op = [72] := by rw [hq]; rfl
      rw [hlf] at hv
      exact rfit_sH op r.err r.h r.h2 r.n r.names D A dn dc an ac w h1 h2 hz hlf _ hA hn hv
    · have hlf : repliesP op = [72, 73] := by rw [hq]; rfl
      rw [hlf] at hv
      exact rfit_sHI op r.err r.h r.h2 r.n r.names D A dn dc an ac w h1 h2 hz hlf _ hA hn hv
    · have hlf : repliesP op = [78, 68] := by rw [hq]; rfl
      rw [hlf] at hv
      exact rfit_sND op r.err r.h r.h2 r.n r.names D A dn dc an ac w h1 h2 hz hlf _ hA hn hv
    · have hlf : repliesP op = [78] := by rw [hq]; rfl
      rw [hlf] at hv
      exact rfit_sN op r.err r.h r.h2 r.n r.names D A dn dc an ac w h1 h2 hz hlf _ hA hn hv
    · have hlf : repliesP op = [78] := by rw [hq]; rfl
      rw [hlf] at hv
      exact rfit_sN op r.err r.h r.h2 r.n r.names D A dn dc an ac w h1 h2 hz hlf _ hA hn hv
    · have hlf : repliesP op = [78] := by rw [hq]; rfl
      rw [hlf] at hv
      exact rfit_sN op r.err r.h r.h2 r.n r.names D A dn dc an ac w h1 h2 hz hlf _ hA hn hv
    · have hlf : repliesP op = [] := by rw [hq]; rfl
      rw [hlf] at hv
      exact rfit_s op r.err r.h r.h2 r.n r.names D A dn dc an ac w h1 h2 hz hlf _ hA hn hv
    · have hlf : repliesP op = [78, 72, 73] := by rw [hq]; rfl
      rw [hlf] at hv
      exact rfit_sNHI op r.err r.h r.h2 r.n r.names D A dn dc an ac w h1 h2 hz hlf _ hA hn hv
    · have hlf : repliesP op = [83] := by rw [hq]; rfl
      rw [hlf] at hv
      exact rfit_sS op r.err r.h r.h2 r.n r.names D A dn dc an ac w h1 h2 hz hlf _ hA hn hv
    · have hlf : repliesP op = [] := by rw [hq]; rfl
      rw [hlf] at hv
      exact rfit_s op r.err r.h r.h2 r.n r.names D A dn dc an ac w h1 h2 hz hlf _ hA hn hv
    · have hlf : repliesP op = [] := by rw [hq]; rfl
      rw [hlf] at hv
      exact rfit_s op r.err r.h r.h2 r.n r.names D A dn dc an ac w h1 h2 hz hlf _ hA hn hv
    · have hlf : repliesP op = [] := by rw [hq]; rfl
      rw [hlf] at hv
      exact rfit_s op r.err r.h r.h2 r.n r.names D A dn dc an ac w h1 h2 hz hlf _ hA hn hv
    · have hlf : repliesP op = [] := by rw [hq]; rfl
      rw [hlf] at hv
      exact rfit_s op r.err r.h r.h2 r.n r.names D A dn dc an ac w h1 h2 hz hlf _ hA hn hv
    · have hlf : repliesP op = [78] := by rw [hq]; rfl
      rw [hlf] at hv
      exact rfit_sN op r.err r.h r.h2 r.n r.names D A dn dc an ac w h1 h2 hz hlf _ hA hn hv
  · have hz : (r.err == 0) = false := by simpa using he
    rw [if_neg he] at hv
    exact rfit_err op r.err r.h r.h2 r.n r.names D A dn dc an ac w h1 h2 hz _ hA hn hv
def fieldR (r : RP) (c : UInt8) : LB := if c = 72 then intP r.h else if c = 73 then intP r.h2 else if c = 78 then intP r.n else if c = 68 then txtP r.d else lstP r.names
def chrR : LB := [72, 73, 78, 68, 83]
theorem fldr_eq0 (op : Int) (r : RP) (h1 : 1 ≤ op) (h2 : op ≤ 16) : catP ((repliesP op).map (fieldR r)) = catP (encR (repU op).1 r) := by
  obtain ⟨err, h, h2p, n, d, names⟩ := r
  rcases ops16 h1 h2 with rfl | rfl | rfl | rfl | rfl | rfl | rfl | rfl | rfl | rfl | rfl | rfl | rfl | rfl | rfl | rfl
  · have e1 : (repliesP 1).map (fieldR ⟨err, h, h2p, n, d, names⟩) = [intP h] := by kernel_rfl
    have e2 : encR (repU 1).1 ⟨err, h, h2p, n, d, names⟩ = [[], intP h, [], [], []] := by kernel_rfl
    rw [e1, e2]
    simp [catP]
  · have e1 : (repliesP 2).map (fieldR ⟨err, h, h2p, n, d, names⟩) = [] := by kernel_rfl
    have e2 : encR (repU 2).1 ⟨err, h, h2p, n, d, names⟩ = [[], [], [], [], []] := by kernel_rfl
    rw [e1, e2]
    simp [catP]
  · have e1 : (repliesP 3).map (fieldR ⟨err, h, h2p, n, d, names⟩) = [intP h] := by kernel_rfl
    have e2 : encR (repU 3).1 ⟨err, h, h2p, n, d, names⟩ = [[], intP h, [], [], []] := by kernel_rfl
    rw [e1, e2]
    simp [catP]
  · have e1 : (repliesP 4).map (fieldR ⟨err, h, h2p, n, d, names⟩) = [intP h, intP h2p] := by kernel_rfl
    have e2 : encR (repU 4).1 ⟨err, h, h2p, n, d, names⟩ = [[], intP h, intP h2p, [], []] := by kernel_rfl
    rw [e1, e2]
    simp [catP]
  · have e1 : (repliesP 5).map (fieldR ⟨err, h, h2p, n, d, names⟩) = [intP n, txtP d] := by kernel_rfl
    have e2 : encR (repU 5).1 ⟨err, h, h2p, n, d, names⟩ = [intP n, [], [], txtP d, []] := by kernel_rfl
    rw [e1, e2]
    simp [catP]
  · have e1 : (repliesP 6).map (fieldR ⟨err, h, h2p, n, d, names⟩) = [intP n] := by kernel_rfl
    have e2 : encR (repU 6).1 ⟨err, h, h2p, n, d, names⟩ = [intP n, [], [], [], []] := by kernel_rfl
    rw [e1, e2]
    simp [catP]
  · have e1 : (repliesP 7).map (fieldR ⟨err, h, h2p, n, d, names⟩) = [intP n] := by kernel_rfl
    have e2 : encR (repU 7).1 ⟨err, h, h2p, n, d, names⟩ = [intP n, [], [], [], []] := by kernel_rfl
    rw [e1, e2]
    simp [catP]
  · have e1 : (repliesP 8).map (fieldR ⟨err, h, h2p, n, d, names⟩) = [intP n] := by kernel_rfl
    have e2 : encR (repU 8).1 ⟨err, h, h2p, n, d, names⟩ = [intP n, [], [], [], []] := by kernel_rfl
    rw [e1, e2]
    simp [catP]
  · have e1 : (repliesP 9).map (fieldR ⟨err, h, h2p, n, d, names⟩) = [] := by kernel_rfl
    have e2 : encR (repU 9).1 ⟨err, h, h2p, n, d, names⟩ = [[], [], [], [], []] := by kernel_rfl
    rw [e1, e2]
    simp [catP]
  · have e1 : (repliesP 10).map (fieldR ⟨err, h, h2p, n, d, names⟩) = [intP n, intP h, intP h2p] := by kernel_rfl
    have e2 : encR (repU 10).1 ⟨err, h, h2p, n, d, names⟩ = [intP n, intP h, intP h2p, [], []] := by kernel_rfl
    rw [e1, e2]
    simp [catP]
  · have e1 : (repliesP 11).map (fieldR ⟨err, h, h2p, n, d, names⟩) = [lstP names] := by kernel_rfl
    have e2 : encR (repU 11).1 ⟨err, h, h2p, n, d, names⟩ = [[], [], [], [], lstP names] := by kernel_rfl
    rw [e1, e2]
    simp [catP]
  · have e1 : (repliesP 12).map (fieldR ⟨err, h, h2p, n, d, names⟩) = [] := by kernel_rfl
    have e2 : encR (repU 12).1 ⟨err, h, h2p, n, d, names⟩ = [[], [], [], [], []] := by kernel_rfl
    rw [e1, e2]
    simp [catP]
  · have e1 : (repliesP 13).map (fieldR ⟨err, h, h2p, n, d, names⟩) = [] := by kernel_rfl
    have e2 : encR (repU 13).1 ⟨err, h, h2p, n, d, names⟩ = [[], [], [], [], []] := by kernel_rfl
    rw [e1, e2]
    simp [catP]
  · have e1 : (repliesP 14).map (fieldR ⟨err, h, h2p, n, d, names⟩) = [] := by kernel_rfl
    have e2 : encR (repU 14).1 ⟨err, h, h2p, n, d, names⟩ = [[], [], [], [], []] := by kernel_rfl
    rw [e1, e2]
    simp [catP]
  · have e1 : (repliesP 15).map (fieldR ⟨err, h, h2p, n, d, names⟩) = [] := by kernel_rfl
    have e2 : encR (repU 15).1 ⟨err, h, h2p, n, d, names⟩ = [[], [], [], [], []] := by kernel_rfl
    rw [e1, e2]
    simp [catP]
  · have e1 : (repliesP 16).map (fieldR ⟨err, h, h2p, n, d, names⟩) = [intP n] := by kernel_rfl
    have e2 : encR (repU 16).1 ⟨err, h, h2p, n, d, names⟩ = [intP n, [], [], [], []] := by kernel_rfl
    rw [e1, e2]
    simp [catP]
theorem fldr_eq (op : Int) (r : RP) (h1 : 1 ≤ op) (h2 : op ≤ 16) : catP ((Lr op r).map (fieldR r)) = catP (encR (r.eff (repU op).1) r) := by
  unfold Lr RP.eff
  by_cases h : r.err = 0
  · rw [if_pos h, if_pos h]
    exact fldr_eq0 op r h1 h2
  · rw [if_neg h, if_neg h]
    have e2 : encR 0 r = [[], [], [], [], []] := by kernel_rfl
    rw [e2]
    simp [catP]
theorem fieldR_le {r : RP} (h : r.small) (c : UInt8) : (fieldR r c).length ≤ 10000 := by
  obtain ⟨s0, s1, s2, s3, s4, s5⟩ := id h
  have ha := h.names
  unfold fieldR
  repeat' split
  all_goals first | (rw [int_len]; omega) | (rw [txt_len]; omega) | (simp only [lstP, List.length_append, be_length]; omega)
theorem repliesP_in (op : Int) (h1 : 1 ≤ op) (h2 : op ≤ 16) : (repliesP op).length ≤ 3 ∧ ∀ c ∈ repliesP op, c ∈ chrR := by
  rcases ops16 h1 h2 with rfl | rfl | rfl | rfl | rfl | rfl | rfl | rfl | rfl | rfl | rfl | rfl | rfl | rfl | rfl | rfl <;> exact ⟨by decide, by decide⟩
theorem partR_le {r : RP} (h : r.small) (l : LB) (hl : l.length ≤ 3) (o : LB) (ho : o.length ≤ 1) (i : Nat) : (o ++ catP ((l.take i).map (fieldR r))).length ≤ 50000 := by
  have h1 := catP_len ((l.take i).map (fieldR r)) 10000 (fun x hx => by
    obtain ⟨c, _, rfl⟩ := List.mem_map.1 hx
    exact fieldR_le h c)
  have h2 : ((l.take i).map (fieldR r)).length ≤ 3 := by rw [List.length_map, List.length_take]; omega
  rw [List.length_append]
  omega
end Go.Proofs.Ytedacfjkbfgikaa
namespace Go.Proofs.Ytedacfjkbfgikaa
open Go.RowKit
set_option linter.unusedVariables false
set_option maxRecDepth 100000 in
set_option maxHeartbeats 4000000 in
theorem rer_no (op : Int) (r : RP) (D A : Option Addr) (dn dc an ac : Nat) (w : World) (h : RdP w r D A dn dc an ac) (hd : r.d.length = dn) (hn : an ≤ 100000) (hno : ((repU op).2 && r.ok (repU op).1) = false) :
    Calls Try.prog 21 #[.int .i64 op, r.v D A dn dc an ac] w fun e w' => e = .returned (.tuple #[.slice none 0 0, .int .i64 2]) ∧ Below w.heap.size w w' := by
  have hb := (Below.refl w.heap.size w).alloc (Nat.le_refl _) (.cells #[.int .i64 r.err, .int .i64 r.h, .int .i64 r.h2, .int .i64 r.n, .slice D dn dc, .slice A an ac] 43)
  have hk := Blk.new w 43 #[.int .i64 r.err, .int .i64 r.h, .int .i64 r.h2, .int .i64 r.n, .slice D dn dc, .slice A an ac]
  have HB := hide hb
  by_cases h1 : op < 1
  · unfold RP.v
    clear hno
    go_enter Try.func21, Try.ntmps21
    go_wp2_with fail
    refine bodyPost_ret (v := .tuple #[.slice none 0 0, .int .i64 2]) (by simp only [results, Try.results21]; go_simp) rfl ⟨rfl, HB.out⟩
  · by_cases h2 : 16 < op
    · unfold RP.v
      clear hno
      go_enter Try.func21, Try.ntmps21
      go_wp2_with fail
      refine bodyPost_ret (v := .tuple #[.slice none 0 0, .int .i64 2]) (by simp only [results, Try.results21]; go_simp) rfl ⟨rfl, HB.out⟩
    · rw [(rep_in (by omega) (by omega)).2, Bool.true_and] at hno
      have XC := hide (rfits_any op r D A dn dc an ac (w.alloc (.cells #[.int .i64 r.err, .int .i64 r.h, .int .i64 r.h2, .int .i64 r.n, .slice D dn dc, .slice A an ac] 43)) (by omega) (by omega) (h.below hb).a hd hn)
      rw [hno] at XC
      unfold RP.v at XC ⊢
      obtain ⟨x0, x1, x2, x3, x4, x5⟩ := blk6 hk
      clear h hb hk
      go_enter Try.func21, Try.ntmps21
      go_wp2_with fail
      refine XC.out.mono ?_
      rintro e w1 ⟨rfl, hb1⟩
      have HB1 := hide (below_more HB.out (Nat.le_refl _) hb1)
      clear XC hb1 HB
      go_wp2_with fail
      refine bodyPost_ret (v := .tuple #[.slice none 0 0, .int .i64 2]) (by simp only [results, Try.results21]; go_simp) rfl ⟨rfl, HB1.out⟩
set_option maxRecDepth 100000 in
set_option maxHeartbeats 8000000 in
theorem rer_err (op : Int) (r : RP) (D A : Option Addr) (dn dc an ac : Nat) (w : World) (h : RdP w r D A dn dc an ac) (hd : r.d.length = dn) (hq : (repU op).2 = true) (hok : r.ok (repU op).1 = true) (hz : (r.err == 0) = false) :
    Calls Try.prog 21 #[.int .i64 op, r.v D A dn dc an ac] w fun e w' => ∃ A' n' c', e = .returned (.tuple #[.slice A' n' c', .int .i64 0]) ∧ OwB w.heap.size w' A' n' c' (encP (repU op).1 r) ∧ Below w.heap.size w w' := by
  obtain ⟨i0, hi, hz0, hz1, hz2⟩ := info_parts infoU8
  obtain ⟨o1, o2⟩ := rep_range hq
  have HS := hide (rok_small hok)
  have hln : an ≤ 255 := by have := rd_len h.a; have := HS.out.2.2.2.2.1.1; omega
  have hb := (Below.refl w.heap.size w).alloc (Nat.le_refl _) (.cells #[.int .i64 r.err, .int .i64 r.h, .int .i64 r.h2, .int .i64 r.n, .slice D dn dc, .slice A an ac] 43)
  have hk := Blk.new w 43 #[.int .i64 r.err, .int .i64 r.h, .int .i64 r.h2, .int .i64 r.n, .slice D dn dc, .slice A an ac]
  have XC := hide (rfits_any op r D A dn dc an ac (w.alloc (.cells #[.int .i64 r.err, .int .i64 r.h, .int .i64 r.h2, .int .i64 r.n, .slice D dn dc, .slice A an ac] 43)) o1 o2 (h.below hb).a hd (by omega))
  rw [hok] at XC
  have HE : Hid (encP (repU op).1 r = [opB r.err] ++ catP ((Lr op r).map (fieldR r))) := hide (by rw [fldr_eq op r o1 o2]; rfl)
  have XR := hide (fun V => replies_any op V o1 o2)
  have hl0 : Lr op r = [] := by unfold Lr; rw [if_neg (by simpa using hz)]
  rw [hl0] at HE
  obtain ⟨hl3, hlc⟩ := repliesP_in op o1 o2
  have HPL := hide (fun i => partR_le HS.out (repliesP op) hl3 [opB r.err] (by simp) i)
  have HLC := hide hlc
  have hy := err_byte HS.out
  generalize encP (repU op).1 r = ENC at *
  generalize opB r.err = ob at *
  unfold RP.v at XC ⊢
  have HB := hide hb
  have hs := hb.size
  have HH := hide h
  have hkl := hk.lt
  obtain ⟨x0, x1, x2, x3, x4, x5⟩ := blk6 hk
  have HK := hide hk
  have g1 : ¬ op < 1 := by omega
  have g2 : ¬ 16 < op := by omega
  clear h hb hk hlc hok hl0 hq o1 o2 hd
  go_enter Try.func21, Try.ntmps21
  go_wp2_with fail
  refine XC.out.mono ?_
  rintro e w1 ⟨rfl, hb1⟩
  have HB1 := hide (below_more HB.out (Nat.le_refl _) hb1)
  have HK1 := hide (HK.out.below hb1 hkl)
  clear XC hb1 HB HK x0 x1 x2 x3 x4 x5 hkl hs
  have hl1 := HK1.out.lt
  have hs1 := HB1.out.size
  have HO2 := hide ((Blk.new w1 5 #[.int .u8 ((ob.toNat : Nat) : Int)]).own (base := w.heap.size) (cap := 1) hs1 (by unfold maxLen; omega) rfl)
  have HB2 := hide (HB1.out.alloc hs1 (.cells #[.int .u8 ((ob.toNat : Nat) : Int)] 5))
  have HK2 := hide (HK1.out.alloc (.cells #[.int .u8 ((ob.toNat : Nat) : Int)] 5))
  have y0 := HK1.out.cell 0
  have z0 := HK2.out.cell 0
  simp only [List.getElem?_toArray, List.getElem?_cons_zero] at y0 z0
  go_wp2_with fail
  refine (XR.out _).mono ?_
  rintro e w3 ⟨rfl, hb3⟩
  have HB3 := hide (below_more HB2.out (Nat.le_refl _) hb3)
  have HK3 := hide (HK2.out.below hb3 HK2.out.lt)
  have HO3 : Hid (OwB w.heap.size w3 (some ⟨w1.heap.size, 0, none⟩) 1 1 [ob]) := hide (own_below HO2.out hb3)
  clear hb3 HB2 HK2 HO2 y0 z0 hl1 HB1 HK1 XR
  generalize repliesP op = l at *
  go_wp2_with fail
  go_loopw [6, 8] (fun s4 s6 wx => ∃ i : Nat, i ≤ 0 ∧ s6 = .int .i64 (i : Int) ∧ ∃ A2 n2 c2, s4 = .slice A2 n2 c2 ∧ Hid (OwB w.heap.size wx A2 n2 c2 ([ob] ++ catP ((l.take i).map (fieldR r)))) ∧ Hid (Below w.heap.size w wx) ∧ Hid (Blk wx w.heap.size 43 #[.int .i64 r.err, .int .i64 r.h, .int .i64 r.h2, .int .i64 r.n, .slice D dn dc, .slice A an ac])) (fun _ i _ => l.length - (intOf i).toNat)
  case atStart => exact ⟨0, Nat.zero_le _, rfl, some ⟨w1.heap.size, 0, none⟩, 1, 1, rfl, by simpa [catP] using HO3, HB3, HK3⟩
  case round =>
    obtain ⟨i, hi', rfl, A2, n2, c2, rfl, HO, HBx, HKx⟩ := hrel
    have hlx := HKx.out.lt
    obtain ⟨x0, x1, x2, x3, x4, x5⟩ := blk6 HKx.out
    obtain rfl : i = 0 := by omega
    by_cases hlt : (0 : Int) < (l.length : Int)
    · go_wp2_with fail
      refine bodyPost_ret (v := .tuple #[.slice A2 n2 c2, .int .i64 0]) (by simp only [results, Try.results21]; go_simp) rfl ⟨A2, n2, c2, rfl, by rw [HE.out]; exact HO.out, HBx.out⟩
    · go_wp2_with fail
      refine bodyPost_ret (v := .tuple #[.slice A2 n2 c2, .int .i64 0]) (by simp only [results, Try.results21]; go_simp) rfl ⟨A2, n2, c2, rfl, by rw [HE.out]; exact HO.out, HBx.out⟩
set_option maxRecDepth 100000 in
set_option maxHeartbeats 8000000 in
theorem rer_zero (op : Int) (r : RP) (D A : Option Addr) (dn dc an ac : Nat) (w : World) (h : RdP w r D A dn dc an ac) (hd : r.d.length = dn) (hq : (repU op).2 = true) (hok : r.ok (repU op).1 = true) (hz : (r.err == 0) = true) :
    Calls Try.prog 21 #[.int .i64 op, r.v D A dn dc an ac] w fun e w' => ∃ A' n' c', e = .returned (.tuple #[.slice A' n' c', .int .i64 0]) ∧ OwB w.heap.size w' A' n' c' (encP (repU op).1 r) ∧ Below w.heap.size w w' := by
  obtain ⟨i0, hi, hz0, hz1, hz2⟩ := info_parts infoU8
  obtain ⟨o1, o2⟩ := rep_range hq
  have HS := hide (rok_small hok)
  have hln : an ≤ 255 := by have := rd_len h.a; have := HS.out.2.2.2.2.1.1; omega
  have hb := (Below.refl w.heap.size w).alloc (Nat.le_refl _) (.cells #[.int .i64 r.err, .int .i64 r.h, .int .i64 r.h2, .int .i64 r.n, .slice D dn dc, .slice A an ac] 43)
  have hk := Blk.new w 43 #[.int .i64 r.err, .int .i64 r.h, .int .i64 r.h2, .int .i64 r.n, .slice D dn dc, .slice A an ac]
  have XC := hide (rfits_any op r D A dn dc an ac (w.alloc (.cells #[.int .i64 r.err, .int .i64 r.h, .int .i64 r.h2, .int .i64 r.n, .slice D dn dc, .slice A an ac] 43)) o1 o2 (h.below hb).a hd (by omega))
  rw [hok] at XC
  have HE : Hid (encP (repU op).1 r = [opB r.err] ++ catP ((Lr op r).map (fieldR r))) := hide (by rw [fldr_eq op r o1 o2]; rfl)
  have XR := hide (fun V => replies_any op V o1 o2)
  have hl0 : Lr op r = repliesP op := by unfold Lr; rw [if_pos (by simpa using hz)]
  rw [hl0] at HE
  obtain ⟨hl3, hlc⟩ := repliesP_in op o1 o2
  have HPL := hide (fun i => partR_le HS.out (repliesP op) hl3 [opB r.err] (by simp) i)
  have HLC := hide hlc
  have hy := err_byte HS.out
  generalize encP (repU op).1 r = ENC at *
  generalize opB r.err = ob at *
  unfold RP.v at XC ⊢
  have HB := hide hb
  have hs := hb.size
  have HH := hide h
  have hkl := hk.lt
  obtain ⟨x0, x1, x2, x3, x4, x5⟩ := blk6 hk
  have HK := hide hk
  have g1 : ¬ op < 1 := by omega
  have g2 : ¬ 16 < op := by omega
  clear h hb hk hlc hok hl0 hq o1 o2 hd
  go_enter Try.func21, Try.ntmps21
  go_wp2_with fail
  refine XC.out.mono ?_
  rintro e w1 ⟨rfl, hb1⟩
  have HB1 := hide (below_more HB.out (Nat.le_refl _) hb1)
  have HK1 := hide (HK.out.below hb1 hkl)
  clear XC hb1 HB HK x0 x1 x2 x3 x4 x5 hkl hs
  have hl1 := HK1.out.lt
  have hs1 := HB1.out.size
  have HO2 := hide ((Blk.new w1 5 #[.int .u8 ((ob.toNat : Nat) : Int)]).own (base := w.heap.size) (cap := 1) hs1 (by unfold maxLen; omega) rfl)
  have HB2 := hide (HB1.out.alloc hs1 (.cells #[.int .u8 ((ob.toNat : Nat) : Int)] 5))
  have HK2 := hide (HK1.out.alloc (.cells #[.int .u8 ((ob.toNat : Nat) : Int)] 5))
  have y0 := HK1.out.cell 0
  have z0 := HK2.out.cell 0
  simp only [List.getElem?_toArray, List.getElem?_cons_zero] at y0 z0
  go_wp2_with fail
  refine (XR.out _).mono ?_
  rintro e w3 ⟨rfl, hb3⟩
  have HB3 := hide (below_more HB2.out (Nat.le_refl _) hb3)
  have HK3 := hide (HK2.out.below hb3 HK2.out.lt)
  have HO3 : Hid (OwB w.heap.size w3 (some ⟨w1.heap.size, 0, none⟩) 1 1 [ob]) := hide (own_below HO2.out hb3)
  clear hb3 HB2 HK2 HO2 y0 z0 hl1 HB1 HK1 XR
  generalize repliesP op = l at *
  go_wp2_with fail
  go_loopw [6, 8] (fun s4 s6 wx => ∃ i : Nat, i ≤ l.length ∧ s6 = .int .i64 (i : Int) ∧ ∃ A2 n2 c2, s4 = .slice A2 n2 c2 ∧ Hid (OwB w.heap.size wx A2 n2 c2 ([ob] ++ catP ((l.take i).map (fieldR r)))) ∧ Hid (Below w.heap.size w wx) ∧ Hid (Blk wx w.heap.size 43 #[.int .i64 r.err, .int .i64 r.h, .int .i64 r.h2, .int .i64 r.n, .slice D dn dc, .slice A an ac])) (fun _ i _ => l.length - (intOf i).toNat)
  case atStart => exact ⟨0, Nat.zero_le _, rfl, some ⟨w1.heap.size, 0, none⟩, 1, 1, rfl, by simpa [catP] using HO3, HB3, HK3⟩
  case round =>
    obtain ⟨i, hi', rfl, A2, n2, c2, rfl, HO, HBx, HKx⟩ := hrel
    have hlx := HKx.out.lt
    obtain ⟨x0, x1, x2, x3, x4, x5⟩ := blk6 HKx.out
    by_cases hlt : i < l.length
    · have hlt1 : (i : Int) < (l.length : Int) := by omega
      have hi0 : (0 : Int) ≤ (i : Int) := by omega
      have v1 : IntKind.i64.wrap ((i : Int) + 1) = (i : Int) + 1 := by simp [IntKind.wrap, IntKind.bits, IntKind.signed]; omega
      have hx : l[i]? = some (l[i]) := List.getElem?_eq_getElem hlt
      have hM : l[i] ∈ chrR := HLC.out _ (List.getElem_mem hlt)
      obtain ⟨x, hxe⟩ : ∃ x, l[i] = x := ⟨_, rfl⟩
      rw [hxe] at hx hM
      have hix := fun W => ix_l l i x hx W
      have HC : Hid (catP ((l.take (i + 1)).map (fieldR r)) = catP ((l.take i).map (fieldR r)) ++ fieldR r x) := hide (catP_take (fieldR r) l i x hx)
      have hn2 : n2 ≤ 50000 := by have := HO.out.rd.len; have := HPL.out i; omega
      clear hx hxe
      simp only [chrR, List.mem_cons, List.mem_nil_iff, or_false] at hM
      rcases hM with rfl | rfl | rfl | rfl | rfl
      · have hix0 : ∀ W, (Instr.index 9 (.string ⟨l.toArray⟩) (.int .i64 (i : Int))).run Try.prog W = .ok (.int .u8 72) W := hix
        clear hix
        have HFE : Hid (fieldR r 72 = intP r.h) := hide (by unfold fieldR; (rw [if_pos rfl]); try rfl)
        rw [HFE.out] at HC
        have hfl := fieldR_le HS.out 72
        have XG := hide (rnumber_any r.h wr HS.out.1.1 HS.out.1.2)
        have HSO : Hid ([ob] ++ catP ((l.take (i + 1)).map (fieldR r)) = ([ob] ++ catP ((l.take i).map (fieldR r))) ++ (intP r.h)) := hide (by rw [HC.out, List.append_assoc])
        clear HC
        generalize [ob] ++ catP ((l.take i).map (fieldR r)) = so at *
        generalize (intP r.h) = fe at *
        go_wp2_with fail
        refine XG.out.mono ?_
        rintro e w4 ⟨A4, c4, rfl, ho4, hb4⟩
        have hn4 : 4 ≤ 10000 := by have := ho4.rd.len; rw [← HFE.out] at this; omega
        have HO4 := hide ho4
        have HI4 : Hid (OwB w.heap.size w4 A2 n2 c2 so) := hide (HO.out.below hb4)
        have HB4 : Hid (Below w.heap.size w w4) := hide (HBx.out.trans (hb4.mono HBx.out.size))
        have HK4 := hide (HKx.out.below hb4 hlx)
        have hbase : w.heap.size ≤ w4.heap.size := HB4.out.size
        clear ho4 hb4 XG x0 x1 x2 x3 x4 x5
        go_wp2_with (at_builtin; (refine wpList_append_any _ rfl (.tmp 48) (.tmp 51) 22 rfl w.heap.size 5 i0 _ 1 1 Try.underlying22 hi hz0 hz1 hz2 rfl (by omega) (.slice A2 n2 c2) n2 (bv so) rfl (by exact HI4.out) _ A4 (4) c4 (bv fe) rfl (by exact HO4.out.rd) (bv_one _) ?c1 ?c2 ?c3 ?_))
        case c1 => unfold maxLen; omega
        case c2 => omega
        case c3 => exact hbase
        intro v5 w5 hown5 hg5 hat5
        obtain ⟨A5, c5, rfl⟩ := own_slice hown5
        rw [← bv_append, ← HSO.out] at hown5
        have HO5 : Hid (OwB w.heap.size w5 A5 (n2 + (4)) c5 ([ob] ++ catP ((l.take (i + 1)).map (fieldR r)))) := hide hown5
        have HB5 : Hid (Below w.heap.size w w5) := hide (HB4.out.grown hg5 hbase (fun g hg => (World.ownsRow.lt HI4.out g hg).1))
        have HK5 := hide (HK4.out.grown hg5 (own_blk_ne HI4.out HK4.out (by decide)).symm)
        clear hown5 hg5 hat5 HI4 HB4 HK4 HO4 HSO hix0
        go_wp2_with fail
        go_roundw
        case rel => exact ⟨i + 1, by omega, by go_num, A5, n2 + (4), c5, rfl, HO5, HB5, HK5⟩
        case measure => simp [intOf]; omega
      · have hix0 : ∀ W, (Instr.index 9 (.string ⟨l.toArray⟩) (.int .i64 (i : Int))).run Try.prog W = .ok (.int .u8 73) W := hix
        clear hix
        have HFE : Hid (fieldR r 73 = intP r.h2) := hide (by unfold fieldR; (rw [if_neg (by decide), if_pos rfl]); try rfl)
        rw [HFE.out] at HC
        have hfl := fieldR_le HS.out 73
        have XG := hide (rnumber_any r.h2 wr HS.out.2.1.1 HS.out.2.1.2)
        have HSO : Hid ([ob] ++ catP ((l.take (i + 1)).map (fieldR r)) = ([ob] ++ catP ((l.take i).map (fieldR r))) ++ (intP r.h2)) := hide (by rw [HC.out, List.append_assoc])
        clear HC
        generalize [ob] ++ catP ((l.take i).map (fieldR r)) = so at *
        generalize (intP r.h2) = fe at *
        go_wp2_with fail
        refine XG.out.mono ?_
        rintro e w4 ⟨A4, c4, rfl, ho4, hb4⟩
        have hn4 : 4 ≤ 10000 := by have := ho4.rd.len; rw [← HFE.out] at this; omega
        have HO4 := hide ho4
        have HI4 : Hid (OwB w.heap.size w4 A2 n2 c2 so) := hide (HO.out.below hb4)
        have HB4 : Hid (Below w.heap.size w w4) := hide (HBx.out.trans (hb4.mono HBx.out.size))
        have HK4 := hide (HKx.out.below hb4 hlx)
        have hbase : w.heap.size ≤ w4.heap.size := HB4.out.size
        clear ho4 hb4 XG x0 x1 x2 x3 x4 x5
        go_wp2_with (at_builtin; (refine wpList_append_any _ rfl (.tmp 55) (.tmp 58) 22 rfl w.heap.size 5 i0 _ 1 1 Try.underlying22 hi hz0 hz1 hz2 rfl (by omega) (.slice A2 n2 c2) n2 (bv so) rfl (by exact HI4.out) _ A4 (4) c4 (bv fe) rfl (by exact HO4.out.rd) (bv_one _) ?c1 ?c2 ?c3 ?_))
        case c1 => unfold maxLen; omega
        case c2 => omega
        case c3 => exact hbase
        intro v5 w5 hown5 hg5 hat5
        obtain ⟨A5, c5, rfl⟩ := own_slice hown5
        rw [← bv_append, ← HSO.out] at hown5
        have HO5 : Hid (OwB w.heap.size w5 A5 (n2 + (4)) c5 ([ob] ++ catP ((l.take (i + 1)).map (fieldR r)))) := hide hown5
        have HB5 : Hid (Below w.heap.size w w5) := hide (HB4.out.grown hg5 hbase (fun g hg => (World.ownsRow.lt HI4.out g hg).1))
        have HK5 := hide (HK4.out.grown hg5 (own_blk_ne HI4.out HK4.out (by decide)).symm)
        clear hown5 hg5 hat5 HI4 HB4 HK4 HO4 HSO hix0
        go_wp2_with fail
        go_roundw
        case rel => exact ⟨i + 1, by omega, by go_num, A5, n2 + (4), c5, rfl, HO5, HB5, HK5⟩
        case measure => simp [intOf]; omega
      · have hix0 : ∀ W, (Instr.index 9 (.string ⟨l.toArray⟩) (.int .i64 (i : Int))).run Try.prog W = .ok (.int .u8 78) W := hix
        clear hix
        have HFE : Hid (fieldR r 78 = intP r.n) := hide (by unfold fieldR; (rw [if_neg (by decide), if_neg (by decide), if_pos rfl]); try rfl)
        rw [HFE.out] at HC
        have hfl := fieldR_le HS.out 78
        have XG := hide (rnumber_any r.n wr HS.out.2.2.1.1 HS.out.2.2.1.2)
        have HSO : Hid ([ob] ++ catP ((l.take (i + 1)).map (fieldR r)) = ([ob] ++ catP ((l.take i).map (fieldR r))) ++ (intP r.n)) := hide (by rw [HC.out, List.append_assoc])
        clear HC
        generalize [ob] ++ catP ((l.take i).map (fieldR r)) = so at *
        generalize (intP r.n) = fe at *
        go_wp2_with fail
        refine XG.out.mono ?_
        rintro e w4 ⟨A4, c4, rfl, ho4, hb4⟩
        have hn4 : 4 ≤ 10000 := by have := ho4.rd.len; rw [← HFE.out] at this; omega
        have HO4 := hide ho4
        have HI4 : Hid (OwB w.heap.size w4 A2 n2 c2 so) := hide (HO.out.below hb4)
        have HB4 : Hid (Below w.heap.size w w4) := hide (HBx.out.trans (hb4.mono HBx.out.size))
        have HK4 := hide (HKx.out.below hb4 hlx)
        have hbase : w.heap.size ≤ w4.heap.size := HB4.out.size
        clear ho4 hb4 XG x0 x1 x2 x3 x4 x5
        go_wp2_with (at_builtin; (refine wpList_append_any _ rfl (.tmp 62) (.tmp 65) 22 rfl w.heap.size 5 i0 _ 1 1 Try.underlying22 hi hz0 hz1 hz2 rfl (by omega) (.slice A2 n2 c2) n2 (bv so) rfl (by exact HI4.out) _ A4 (4) c4 (bv fe) rfl (by exact HO4.out.rd) (bv_one _) ?c1 ?c2 ?c3 ?_))
        case c1 => unfold maxLen; omega
        case c2 => omega
        case c3 => exact hbase
        intro v5 w5 hown5 hg5 hat5
        obtain ⟨A5, c5, rfl⟩ := own_slice hown5
        rw [← bv_append, ← HSO.out] at hown5
        have HO5 : Hid (OwB w.heap.size w5 A5 (n2 + (4)) c5 ([ob] ++ catP ((l.take (i + 1)).map (fieldR r)))) := hide hown5
        have HB5 : Hid (Below w.heap.size w w5) := hide (HB4.out.grown hg5 hbase (fun g hg => (World.ownsRow.lt HI4.out g hg).1))
        have HK5 := hide (HK4.out.grown hg5 (own_blk_ne HI4.out HK4.out (by decide)).symm)
        clear hown5 hg5 hat5 HI4 HB4 HK4 HO4 HSO hix0
        go_wp2_with fail
        go_roundw
        case rel => exact ⟨i + 1, by omega, by go_num, A5, n2 + (4), c5, rfl, HO5, HB5, HK5⟩
        case measure => simp [intOf]; omega
      · have hix0 : ∀ W, (Instr.index 9 (.string ⟨l.toArray⟩) (.int .i64 (i : Int))).run Try.prog W = .ok (.int .u8 68) W := hix
        clear hix
        have HFE : Hid (fieldR r 68 = be 2 r.d.length ++ r.d) := hide (by unfold fieldR; (rw [if_neg (by decide), if_neg (by decide), if_neg (by decide), if_pos rfl]); try rfl)
        rw [HFE.out] at HC
        have hfl := fieldR_le HS.out 68
        have XG := hide (rtext_any r.d wr (by have := HS.out.2.2.2.1; omega))
        have st := run_string_of (P := Try.prog) wr _ 22 9 5 D dn dc r.d Try.underlying22 Try.underlying5 Try.underlying9 (rdb HH.out.d HBx.out)
        have HSO : Hid ([ob] ++ catP ((l.take (i + 1)).map (fieldR r)) = ([ob] ++ catP ((l.take i).map (fieldR r))) ++ (be 2 r.d.length ++ r.d)) := hide (by rw [HC.out, List.append_assoc])
        clear HC
        generalize [ob] ++ catP ((l.take i).map (fieldR r)) = so at *
        generalize (be 2 r.d.length ++ r.d) = fe at *
        go_wp2_with fail
        refine XG.out.mono ?_
        rintro e w4 ⟨A4, c4, rfl, ho4, hb4⟩
        have hn4 : 2 + r.d.length ≤ 10000 := by have := ho4.rd.len; rw [← HFE.out] at this; omega
        have HO4 := hide ho4
        have HI4 : Hid (OwB w.heap.size w4 A2 n2 c2 so) := hide (HO.out.below hb4)
        have HB4 : Hid (Below w.heap.size w w4) := hide (HBx.out.trans (hb4.mono HBx.out.size))
        have HK4 := hide (HKx.out.below hb4 hlx)
        have hbase : w.heap.size ≤ w4.heap.size := HB4.out.size
        clear ho4 hb4 XG x0 x1 x2 x3 x4 x5
        go_wp2_with (at_builtin; (refine wpList_append_any _ rfl (.tmp 69) (.tmp 73) 22 rfl w.heap.size 5 i0 _ 1 1 Try.underlying22 hi hz0 hz1 hz2 rfl (by omega) (.slice A2 n2 c2) n2 (bv so) rfl (by exact HI4.out) _ A4 (2 + r.d.length) c4 (bv fe) rfl (by exact HO4.out.rd) (bv_one _) ?c1 ?c2 ?c3 ?_))
        case c1 => unfold maxLen; omega
        case c2 => omega
        case c3 => exact hbase
        intro v5 w5 hown5 hg5 hat5
        obtain ⟨A5, c5, rfl⟩ := own_slice hown5
        rw [← bv_append, ← HSO.out] at hown5
        have HO5 : Hid (OwB w.heap.size w5 A5 (n2 + (2 + r.d.length)) c5 ([ob] ++ catP ((l.take (i + 1)).map (fieldR r)))) := hide hown5
        have HB5 : Hid (Below w.heap.size w w5) := hide (HB4.out.grown hg5 hbase (fun g hg => (World.ownsRow.lt HI4.out g hg).1))
        have HK5 := hide (HK4.out.grown hg5 (own_blk_ne HI4.out HK4.out (by decide)).symm)
        clear hown5 hg5 hat5 HI4 HB4 HK4 HO4 HSO hix0
        go_wp2_with fail
        go_roundw
        case rel => exact ⟨i + 1, by omega, by go_num, A5, n2 + (2 + r.d.length), c5, rfl, HO5, HB5, HK5⟩
        case measure => simp [intOf]; omega
      · have hix0 : ∀ W, (Instr.index 9 (.string ⟨l.toArray⟩) (.int .i64 (i : Int))).run Try.prog W = .ok (.int .u8 83) W := hix
        clear hix
        have HFE : Hid (fieldR r 83 = be 1 r.names.length ++ catP (r.names.map txtP)) := hide (by unfold fieldR; (rw [if_neg (by decide), if_neg (by decide), if_neg (by decide), if_neg (by decide)]); try rfl)
        rw [HFE.out] at HC
        have hfl := fieldR_le HS.out 83
        have XG := hide (rlist_any r.names A an ac wr (HH.out.below HBx.out).a (by omega) (by have := HS.out.names; omega))
        have HSO : Hid ([ob] ++ catP ((l.take (i + 1)).map (fieldR r)) = ([ob] ++ catP ((l.take i).map (fieldR r))) ++ (be 1 r.names.length ++ catP (r.names.map txtP))) := hide (by rw [HC.out, List.append_assoc])
        clear HC
        generalize [ob] ++ catP ((l.take i).map (fieldR r)) = so at *
        generalize (be 1 r.names.length ++ catP (r.names.map txtP)) = fe at *
        go_wp2_with fail
        refine XG.out.mono ?_
        rintro e w4 ⟨A4, c4, rfl, ho4, hb4⟩
        have hn4 : 1 + (catP (r.names.map txtP)).length ≤ 10000 := by have := ho4.rd.len; rw [← HFE.out] at this; omega
        have HO4 := hide ho4
        have HI4 : Hid (OwB w.heap.size w4 A2 n2 c2 so) := hide (HO.out.below hb4)
        have HB4 : Hid (Below w.heap.size w w4) := hide (HBx.out.trans (hb4.mono HBx.out.size))
        have HK4 := hide (HKx.out.below hb4 hlx)
        have hbase : w.heap.size ≤ w4.heap.size := HB4.out.size
        clear ho4 hb4 XG x0 x1 x2 x3 x4 x5
        go_wp2_with (at_builtin; (refine wpList_append_any _ rfl (.tmp 41) (.tmp 44) 22 rfl w.heap.size 5 i0 _ 1 1 Try.underlying22 hi hz0 hz1 hz2 rfl (by omega) (.slice A2 n2 c2) n2 (bv so) rfl (by exact HI4.out) _ A4 (1 + (catP (r.names.map txtP)).length) c4 (bv fe) rfl (by exact HO4.out.rd) (bv_one _) ?c1 ?c2 ?c3 ?_))
        case c1 => unfold maxLen; omega
        case c2 => omega
        case c3 => exact hbase
        intro v5 w5 hown5 hg5 hat5
        obtain ⟨A5, c5, rfl⟩ := own_slice hown5
        rw [← bv_append, ← HSO.out] at hown5
        have HO5 : Hid (OwB w.heap.size w5 A5 (n2 + (1 + (catP (r.names.map txtP)).length)) c5 ([ob] ++ catP ((l.take (i + 1)).map (fieldR r)))) := hide hown5
        have HB5 : Hid (Below w.heap.size w w5) := hide (HB4.out.grown hg5 hbase (fun g hg => (World.ownsRow.lt HI4.out g hg).1))
        have HK5 := hide (HK4.out.grown hg5 (own_blk_ne HI4.out HK4.out (by decide)).symm)
        clear hown5 hg5 hat5 HI4 HB4 HK4 HO4 HSO hix0
        go_wp2_with fail
        go_roundw
        case rel => exact ⟨i + 1, by omega, by go_num, A5, n2 + (1 + (catP (r.names.map txtP)).length), c5, rfl, HO5, HB5, HK5⟩
        case measure => simp [intOf]; omega
    · obtain rfl : i = l.length := by omega
      have hlt1 : ¬ (l.length : Int) < (l.length : Int) := by omega
      rw [List.take_length] at HO
      go_wp2_with fail
      refine bodyPost_ret (v := .tuple #[.slice A2 n2 c2, .int .i64 0]) (by simp only [results, Try.results21]; go_simp) rfl ⟨A2, n2, c2, rfl, by rw [HE.out]; exact HO.out, HBx.out⟩
theorem rer_yes (op : Int) (r : RP) (D A : Option Addr) (dn dc an ac : Nat) (w : World) (h : RdP w r D A dn dc an ac) (hd : r.d.length = dn) (hq : (repU op).2 = true) (hok : r.ok (repU op).1 = true) :
    Calls Try.prog 21 #[.int .i64 op, r.v D A dn dc an ac] w fun e w' => ∃ A' n' c', e = .returned (.tuple #[.slice A' n' c', .int .i64 0]) ∧ OwB w.heap.size w' A' n' c' (encP (repU op).1 r) ∧ Below w.heap.size w w' := by
  cases hz : (r.err == 0) with
  | true => exact rer_zero op r D A dn dc an ac w h hd hq hok hz
  | false => exact rer_err op r D A dn dc an ac w h hd hq hok hz
end Go.Proofs.Ytedacfjkbfgikaa
namespace Go.Proofs.Ytedacfjkbfgikaa
open Go.RowKit
set_option linter.unusedVariables false
def rpS2 (p : RP × St) : RP × St := ({ p.1 with names := (listR txtS p.2).1 }, (listR txtS p.2).2)
def rpC (c : UInt8) (p : RP × St) : RP × St := if c = 72 then rpH p else if c = 73 then rpH2 p else if c = 78 then rpN p else if c = 68 then rpD p else rpS2 p
def rpE (c : UInt8) (p : RP × St) : RP × St := if c = 72 then rpH p else if c = 73 then rpH2 p else if c = 78 then rpN p else if c = 68 then rpD p else rpS p
def foldP (f : UInt8 → RP × St → RP × St) (l : LB) (p : RP × St) : RP × St := l.foldl (fun q c => f c q) p
theorem rpE_bad (c : UInt8) (p : RP × St) (h : p.2.2 = true) : (rpE c p).2.2 = true := by
  unfold rpE
  split
  · show (intS p.2).2.2 = true; exact intS_short h
  split
  · show (intS p.2).2.2 = true; exact intS_short h
  split
  · show (intS p.2).2.2 = true; exact intS_short h
  split
  · show (txtS p.2).2.2 = true; exact txtS_short h
  · exact listS_short txtS (fun st h => txtS_short h) _ h
theorem rpC_flag (c : UInt8) (p : RP × St) : (rpC c p).2.2 = (rpE c p).2.2 ∧ ((rpE c p).2.2 = false → rpC c p = rpE c p) := by
  have t := listR_eq txtS (fun st h => txtS_short h) p.2
  unfold rpC rpE
  repeat' split
  all_goals first
    | exact ⟨rfl, fun _ => rfl⟩
    | exact ⟨t.1, fun h => by unfold rpS2 rpS; rw [t.2 h]⟩
theorem foldP_bad : ∀ (l : LB) (p : RP × St), p.2.2 = true → (foldP rpE l p).2.2 = true
  | [], p, h => h
  | c :: l, p, h => foldP_bad l _ (rpE_bad c p h)
theorem foldP_flag : ∀ (l : LB) (p q : RP × St), p.2.2 = q.2.2 → (q.2.2 = false → p = q) → (foldP rpC l p).2.2 = (foldP rpE l q).2.2 ∧ ((foldP rpE l q).2.2 = false → foldP rpC l p = foldP rpE l q)
  | [], p, q, h1, h2 => ⟨h1, h2⟩
  | c :: l, p, q, h1, h2 => by
    refine foldP_flag l (rpC c p) (rpE c q) ?_ ?_
    · cases hq : q.2.2 with
      | false => rw [h2 hq]; exact (rpC_flag c q).1
      | true =>
        rw [hq] at h1
        rw [(rpC_flag c p).1, rpE_bad c p h1, rpE_bad c q hq]
    · intro h
      have hq : q.2.2 = false := by
        cases hq : q.2.2 with
        | false => rfl
        | true => rw [rpE_bad c q hq] at h; cases h
      rw [h2 hq]
      exact (rpC_flag c q).2 h
def LrO (op err : Int) : LB := if err = 0 then repliesP op else []
theorem foldP_dec (op err : Int) (h1 : 1 ≤ op) (h2 : op ≤ 16) (st : St) : foldP rpE (LrO op err) (zP err, st) = decY (if err = 0 then (repU op).1 else 0) err st := by
  unfold LrO
  by_cases h : err = 0
  · rw [if_pos h, if_pos h]
    clear h
    rcases ops16 h1 h2 with rfl | rfl | rfl | rfl | rfl | rfl | rfl | rfl | rfl | rfl | rfl | rfl | rfl | rfl | rfl | rfl <;> kernel_rfl
  · rw [if_neg h, if_neg h]
    kernel_rfl
def refR (op : Int) (bs : LB) : RP × St := foldP rpC (LrO op ((numS 1 (bs, false)).1 : Int)) (zP ((numS 1 (bs, false)).1 : Int), (numS 1 (bs, false)).2)
def refDR (op : Int) (bs : LB) : Option RP := if (!(refR op bs).2.2 && ((refR op bs).1.ok (repU op).1 && (encP (repU op).1 (refR op bs).1 == bs))) = true then some (refR op bs).1 else none
theorem refDR_eq (op : Int) (bs : LB) (h1 : 1 ≤ op) (h2 : op ≤ 16) : refDR op bs = decR (repU op) bs := by
  have hk := (rep_in h1 h2).2
  have hdec := fun err st => foldP_dec op err h1 h2 st
  unfold decR
  rw [if_pos hk]
  cases bs with
  | nil =>
    have hb : (refR op []).2.2 = true := by
      unfold refR
      rw [(foldP_flag _ _ _ rfl (fun _ => rfl)).1]
      exact foldP_bad _ _ rfl
    unfold refDR
    rw [hb]
    rfl
  | cons b rest =>
    unfold refDR refR
    rw [numS_one]
    dsimp only
    have hob : opB (b.toNat : Int) = b := by unfold opB; simp
    generalize (b.toNat : Int) = e at *
    obtain ⟨f1, f2⟩ := foldP_flag (LrO op e) (zP e, (rest, false)) _ rfl (fun _ => rfl)
    rw [hdec] at f1 f2
    unfold decW
    have hback := fun r' (h : (decY (if e = 0 then (repU op).1 else 0) e (rest, false)).2 = (r', false)) => decY_back _ _ _ _ h
    cases hbad : (decY (if e = 0 then (repU op).1 else 0) e (rest, false)).2.2 with
    | true =>
      rw [f1, hbad]
      simp
    | false =>
      rw [f2 hbad, hbad]
      generalize hu : (if e = 0 then (repU op).1 else 0) = u at *
      generalize decY u e (rest, false) = X at *
      obtain ⟨r, r', fl⟩ := X
      dsimp only at hbad hback ⊢
      subst hbad
      obtain ⟨e1, e2, e3, e4⟩ := hback r' rfl
      injection e1 with e1
      have he : r.eff (repU op).1 = u := by unfold RP.eff; rw [e4]; exact hu
      have hE : (encP (repU op).1 r == b :: rest) = r'.isEmpty := by
        unfold encP
        rw [he, e4, hob, e1]
        cases r' with
        | nil => simp
        | cons x l =>
          have hne : ¬ (b :: catP (encR u r)) = b :: (catP (encR u r) ++ x :: l) := by
            intro h
            injection h with _ h
            have := congrArg List.length h
            simp at this
          rw [beq_false_of_ne hne]
          rfl
      rw [hE, ← he, rok_eff]
      cases r'.isEmpty <;> cases r.ok (repU op).1 <;> rfl
theorem foldP_next (f : UInt8 → RP × St → RP × St) (l : LB) (p : RP × St) (i : Nat) (x : UInt8) (hx : l[i]? = some x) : foldP f (l.take (i + 1)) p = f x (foldP f (l.take i) p) := by
  unfold foldP
  rw [List.take_add_one, hx, List.foldl_append]
  rfl
theorem errI (r : RP) (x : Int) : ({ r with n := x } : RP).err = r.err ∧ ({ r with n := x } : RP).names = r.names ∧ ({ r with h := x } : RP).err = r.err ∧ ({ r with h := x } : RP).names = r.names ∧ ({ r with h2 := x } : RP).err = r.err ∧ ({ r with h2 := x } : RP).names = r.names := ⟨rfl, rfl, rfl, rfl, rfl, rfl⟩
theorem errT (r : RP) (x : LB) : ({ r with d := x } : RP).err = r.err ∧ ({ r with d := x } : RP).names = r.names := ⟨rfl, rfl⟩
theorem errS (r : RP) (x : List LB) : ({ r with names := x } : RP).err = r.err ∧ ({ r with names := x } : RP).names = x := ⟨rfl, rfl⟩
theorem err_rpN (p : RP × St) : (rpN p).1.err = p.1.err ∧ (rpN p).1.names = p.1.names := have h := errI p.1 (intS p.2).1; ⟨h.1, h.2.1⟩
theorem err_rpH (p : RP × St) : (rpH p).1.err = p.1.err ∧ (rpH p).1.names = p.1.names := have h := errI p.1 (intS p.2).1; ⟨h.2.2.1, h.2.2.2.1⟩
theorem err_rpH2 (p : RP × St) : (rpH2 p).1.err = p.1.err ∧ (rpH2 p).1.names = p.1.names := have h := errI p.1 (intS p.2).1; ⟨h.2.2.2.2.1, h.2.2.2.2.2⟩
theorem err_rpD (p : RP × St) : (rpD p).1.err = p.1.err ∧ (rpD p).1.names = p.1.names := errT p.1 (txtS p.2).1
theorem err_rpS2 (p : RP × St) : (rpS2 p).1.err = p.1.err ∧ (rpS2 p).1.names.length ≤ 255 := ⟨(errS p.1 (listR txtS p.2).1).1, listR_le txtS p.2⟩
theorem rpC_keep (c : UInt8) (p : RP × St) (h : p.1.names.length ≤ 255) : (rpC c p).1.err = p.1.err ∧ (rpC c p).1.names.length ≤ 255 := by
  have k1 := err_rpN p
  have k2 := err_rpH p
  have k3 := err_rpH2 p
  have k4 := err_rpD p
  have k5 := err_rpS2 p
  unfold rpC
  generalize rpN p = q1 at *
  generalize rpH p = q2 at *
  generalize rpH2 p = q3 at *
  generalize rpD p = q4 at *
  generalize rpS2 p = q5 at *
  repeat' split
  · exact ⟨k2.1, by rw [k2.2]; exact h⟩
  · exact ⟨k3.1, by rw [k3.2]; exact h⟩
  · exact ⟨k1.1, by rw [k1.2]; exact h⟩
  · exact ⟨k4.1, by rw [k4.2]; exact h⟩
  · exact k5
theorem foldP_keep : ∀ (l : LB) (p : RP × St), p.1.names.length ≤ 255 → (foldP rpC l p).1.err = p.1.err ∧ (foldP rpC l p).1.names.length ≤ 255
  | [], p, h => ⟨rfl, h⟩
  | c :: l, p, h => by
    have k := rpC_keep c p h
    have m := foldP_keep l (rpC c p) k.2
    exact ⟨m.1.trans k.1, m.2⟩
structure DrAt (B gr : Nat) (r : RP) (w : World) (D A : Option Addr) (dn dc an ac : Nat) : Prop where
  k : Blk w gr 43 (pcs r D A dn dc an ac)
  d : FR B w D dn (bv r.d)
  a : FR B w A an (svs r.names)
def RR (w0 : World) (b B g gr : Nat) (q : RP × St) (w : World) : Prop := PAt B g q.2 w ∧ (∃ D dn dc A an ac, DrAt B gr q.1 w D A dn dc an ac) ∧ Below b w0 w ∧ gr < B ∧ b ≤ g ∧ b ≤ gr
theorem RR.ne {w0 : World} {b B g gr : Nat} {q : RP × St} {w : World} (h : RR w0 b B g gr q w) : gr ≠ g := by
  obtain ⟨⟨A, n, c, a, bs, h1, -⟩, ⟨D, dn, dc, A', an, ac, h2⟩, -⟩ := h
  exact h2.k.ne_ h1 (by decide)
theorem RR.fr {w0 : World} {b B g gr : Nat} {r : RP} {st st' : St} {w w' : World} (h : RR w0 b B g gr (r, st) w) (hi : PAt B g st' w') (hf : Fr g w w') : RR w0 b B g gr (r, st') w' := by
  have hne := h.ne
  obtain ⟨h1, ⟨D, dn, dc, A, an, ac, h2⟩, h4, h5, h6, h7⟩ := h
  have hg := h1.lt
  have hk : ∀ x, B ≤ x → x < w.heap.size → w'.heap[x]? = w.heap[x]? := fun x hx hl => hf.block x hl (by omega)
  exact ⟨hi, ⟨D, dn, dc, A, an, ac, ⟨(hf.block gr h2.k.lt hne).trans h2.k, h2.d.keep hk hf.size, h2.a.keep hk hf.size⟩⟩, h4.trans ⟨hf.os, hf.tape, hf.output, hf.size, fun x hx => hf.block x (by omega) (by omega)⟩, h5, h6, h7⟩
theorem RR.set_ {w0 : World} {b B g gr : Nat} {r r' : RP} {st : St} {w : World} (h : RR w0 b B g gr (r, st) w) (i : Nat) (u : Value) (hi : i < 6)
    (hr : ∀ D dn dc A an ac, DrAt B gr r w D A dn dc an ac → ∃ D' dn' dc' A' an' ac', (pcs r D A dn dc an ac).setIfInBounds i u = pcs r' D' A' dn' dc' an' ac' ∧ FR B w D' dn' (bv r'.d) ∧ FR B w A' an' (svs r'.names)) :
    RR w0 b B g gr (r', st) (w.setCell ⟨gr, i, none⟩ u) := by
  have hne := h.ne
  obtain ⟨h1, ⟨D, dn, dc, A, an, ac, h2⟩, h4, h5, h6, h7⟩ := h
  obtain ⟨D', dn', dc', A', an', ac', m1, m2, m3⟩ := hr D dn dc A an ac h2
  obtain ⟨IA, In, Ic, Iat, Ibs, n1, n2, n3, n4, n5, n6, n7, n8⟩ := h1
  have hk : ∀ x, B ≤ x → x < w.heap.size → (w.setCell ⟨gr, i, none⟩ u).heap[x]? = w.heap[x]? := fun x hx hl => Below.heap_setCell w ⟨gr, i, none⟩ u x (by show x ≠ gr; omega)
  refine ⟨⟨IA, In, Ic, Iat, Ibs, n1.far (p := ⟨gr, i, none⟩) (fun e => hne e.symm) u, reads_blk n2 h2.k (pcs_no _ _ _ _ _ _ _) i u (by simpa [pcs] using hi), n3, n4, n5, n6, n7, by simpa using n8⟩, ⟨D', dn', dc', A', an', ac', ⟨m1 ▸ h2.k.set_ i u, m2.keep hk (by simp), m3.keep hk (by simp)⟩⟩, h4.setCell (by exact h7) u, h5, h6, h7⟩
end Go.Proofs.Ytedacfjkbfgikaa
namespace Go.Proofs.Ytedacfjkbfgikaa
open Go.RowKit
set_option linter.unusedVariables false
def RREnd (c : Int) (R : Option RP) (w : World) (e : Ending) (w' : World) : Prop := ∃ D dn dc A an ac, e = .returned (.tuple #[(R.getD (zP 0)).v D A dn dc an ac, .int .i64 (if R.isSome then 0 else c)]) ∧ RdP w' (R.getD (zP 0)) D A dn dc an ac ∧ Below w.heap.size w w'
theorem rr_none {c : Int} {R : Option RP} (h : R = none) {w w' : World} (hb : Below w.heap.size w w') : RREnd c R w (.returned (.tuple #[zw, .int .i64 c])) w' := by
  subst h
  exact ⟨none, 0, 0, none, 0, 0, rfl, ⟨Reads.none_, Reads.none_⟩, hb⟩
theorem pat_more {B B' g : Nat} {st : St} {w : World} (h : PAt B g st w) (hB : B ≤ B') (hs : B' ≤ w.heap.size) : PAt B' g st w := by
  obtain ⟨A, n, c, a, bs, h1, h2, h3, h4, h5, h6, h7, h8⟩ := h
  exact ⟨A, n, c, a, bs, h1, h2.more hB, h3, h4, h5, h6, by omega, hs⟩
theorem fr_low6 {B B' : Nat} {w : World} {D : Option Addr} {n : Nat} {xs : List Value} (h : FR B w D n xs) (hb : B' ≤ B) : FR B' w D n xs := ⟨h.1, fun ad hD h0 => Nat.le_trans hb (h.2 ad hD h0)⟩
theorem rd6 {w : World} {b : Nat} {D : Option Addr} {n : Nat} {xs : List Value} (h : FR (b + 1) w D n xs) (v0 v1 v2 v3 v4 v5 : Value) : Reads ((((((w.setCell ⟨b, 0, none⟩ v0).setCell ⟨b, 1, none⟩ v1).setCell ⟨b, 2, none⟩ v2).setCell ⟨b, 3, none⟩ v3).setCell ⟨b, 4, none⟩ v4).setCell ⟨b, 5, none⟩ v5) ((((((w.setCell ⟨b, 0, none⟩ v0).setCell ⟨b, 1, none⟩ v1).setCell ⟨b, 2, none⟩ v2).setCell ⟨b, 3, none⟩ v3).setCell ⟨b, 4, none⟩ v4).setCell ⟨b, 5, none⟩ v5).heap.size 1 D n xs :=
  (h.keep (w' := ((((((w.setCell ⟨b, 0, none⟩ v0).setCell ⟨b, 1, none⟩ v1).setCell ⟨b, 2, none⟩ v2).setCell ⟨b, 3, none⟩ v3).setCell ⟨b, 4, none⟩ v4).setCell ⟨b, 5, none⟩ v5)) (fun x hx hl => (((((Below.heap_setCell _ ⟨b, 5, none⟩ _ x (by show x ≠ b; omega)).trans (Below.heap_setCell _ ⟨b, 4, none⟩ _ x (by show x ≠ b; omega))).trans (Below.heap_setCell _ ⟨b, 3, none⟩ _ x (by show x ≠ b; omega))).trans (Below.heap_setCell _ ⟨b, 2, none⟩ _ x (by show x ≠ b; omega))).trans (Below.heap_setCell _ ⟨b, 1, none⟩ _ x (by show x ≠ b; omega))).trans (Below.heap_setCell _ ⟨b, 0, none⟩ _ x (by show x ≠ b; omega))) (by simp)).1
theorem RR.c0 {w0 : World} {b B g gr : Nat} {q : RP × St} {w : World} (h : RR w0 b B g gr q w) : w.cell? ⟨gr, 0, none⟩ = some (.int .i64 q.1.err) := by
  obtain ⟨-, ⟨D, dn, dc, A, an, ac, h2⟩, -⟩ := h
  have c := h2.k.cell 0
  unfold pcs at c
  simp only [List.getElem?_toArray, List.getElem?_cons_zero] at c
  exact c
set_option maxRecDepth 100000 in
set_option maxHeartbeats 4000000 in
theorem rdr_unk (op : Int) (A : Option Addr) (n c : Nat) (bs : LB) (w : World) (ho : ¬ (1 ≤ op ∧ op ≤ 16)) : Calls Try.prog 23 #[.int .i64 op, .slice A n c] w fun e w' => RREnd 2 (decR (repU op) bs) w e w' := by
  have hR : decR (repU op) bs = none := by unfold decR; rw [rep_out ho]; rfl
  generalize decR (repU op) bs = R at *
  have HZ := hide (Blk.new w 43 #[.int .i64 0, .int .i64 0, .int .i64 0, .int .i64 0, .slice none 0 0, .slice none 0 0])
  have HB := hide ((Below.refl w.heap.size w).alloc (Nat.le_refl _) (.cells #[.int .i64 0, .int .i64 0, .int .i64 0, .int .i64 0, .slice none 0 0, .slice none 0 0] 43))
  generalize hW1 : w.alloc (.cells #[.int .i64 0, .int .i64 0, .int .i64 0, .int .i64 0, .slice none 0 0, .slice none 0 0] 43) = w1 at HZ HB
  have HE : Hid (RREnd 2 R w (.returned (.tuple #[zw, .int .i64 2])) ((((((w1.setCell ⟨w.heap.size, 0, none⟩ (.int .i64 0)).setCell ⟨w.heap.size, 1, none⟩ (.int .i64 0)).setCell ⟨w.heap.size, 2, none⟩ (.int .i64 0)).setCell ⟨w.heap.size, 3, none⟩ (.int .i64 0)).setCell ⟨w.heap.size, 4, none⟩ (.slice none 0 0)).setCell ⟨w.heap.size, 5, none⟩ (.slice none 0 0))) := hide (rr_none (by exact hR) (below6 HB.out _ _ _ _ _ _))
  have HZe := hide (blk6s HZ.out (.int .i64 0) (.int .i64 0) (.int .i64 0) (.int .i64 0) (.slice none 0 0) (.slice none 0 0))
  have hl1 := HZ.out.lt
  obtain ⟨z0, z1, z2, z3, z4, z5⟩ := blk6 HZ.out
  obtain ⟨f0, f1, f2, f3, f4, f5⟩ := fro6 HZ.out
  unfold zw at HE
  generalize hWE : ((((((w1.setCell ⟨w.heap.size, 0, none⟩ (.int .i64 0)).setCell ⟨w.heap.size, 1, none⟩ (.int .i64 0)).setCell ⟨w.heap.size, 2, none⟩ (.int .i64 0)).setCell ⟨w.heap.size, 3, none⟩ (.int .i64 0)).setCell ⟨w.heap.size, 4, none⟩ (.slice none 0 0)).setCell ⟨w.heap.size, 5, none⟩ (.slice none 0 0)) = WE at HE HZe
  clear hR
  by_cases h1 : op < 1
  · go_enter Try.func23, Try.ntmps23
    go_wp2_with fail
    clear hWE z0 z1 z2 z3 z4 z5 f0 f1 f2 f3 f4 f5
    obtain ⟨z0, z1, z2, z3, z4, z5⟩ := blk6 HZe.out
    refine bodyPost_ret (v := .tuple #[.agg #[.int .i64 0, .int .i64 0, .int .i64 0, .int .i64 0, .slice none 0 0, .slice none 0 0], .int .i64 2]) (by simp only [results, Try.results23]; go_simp) rfl HE.out
  · have h2 : 16 < op := by omega
    go_enter Try.func23, Try.ntmps23
    go_wp2_with fail
    clear hWE z0 z1 z2 z3 z4 z5 f0 f1 f2 f3 f4 f5
    obtain ⟨z0, z1, z2, z3, z4, z5⟩ := blk6 HZe.out
    refine bodyPost_ret (v := .tuple #[.agg #[.int .i64 0, .int .i64 0, .int .i64 0, .int .i64 0, .slice none 0 0, .slice none 0 0], .int .i64 2]) (by simp only [results, Try.results23]; go_simp) rfl HE.out
set_option maxRecDepth 100000 in
set_option maxHeartbeats 16000000 in
theorem rdr_zero (op : Int) (bs : LB) (A : Option Addr) (n c : Nat) (w : World) (hr : Rd w A n bs) (hn : n ≤ 100000) (hc : n ≤ c) (o1 : 1 ≤ op) (o2 : op ≤ 16) (hz : (((numS 1 (bs, false)).1 : Int) == 0) = true) : Calls Try.prog 23 #[.int .i64 op, .slice A n c] w fun e w' => RREnd 5 (decR (repU op) bs) w e w' := by
  have HR : Hid (decR (repU op) bs = if (!(refR op bs).2.2 && ((refR op bs).1.ok (repU op).1 && (encP (repU op).1 (refR op bs).1 == bs))) = true then some (refR op bs).1 else none) := hide (refDR_eq op bs o1 o2).symm
  have hq := (rep_in o1 o2).2
  generalize decR (repU op) bs = R at *
  have s0 : (w.alloc (.cells #[.int .i64 0, .int .i64 0, .int .i64 0, .int .i64 0, .slice none 0 0, .slice none 0 0] 43)).heap.size = w.heap.size + 1 := by simp
  have hz0 := Blk.new w 43 #[.int .i64 0, .int .i64 0, .int .i64 0, .int .i64 0, .slice none 0 0, .slice none 0 0]
  have hp := Blk.new (w.alloc (.cells #[.int .i64 0, .int .i64 0, .int .i64 0, .int .i64 0, .slice none 0 0, .slice none 0 0] 43)) 80 #[.slice A n c, .int .i64 0, .bool false]
  rw [s0] at hp
  have b0 := ((Below.refl w.heap.size w).alloc (Nat.le_refl _) (.cells #[.int .i64 0, .int .i64 0, .int .i64 0, .int .i64 0, .slice none 0 0, .slice none 0 0] 43)).alloc (by simp) (.cells #[.slice A n c, .int .i64 0, .bool false] 80)
  have b1 := (Below.refl (w.heap.size + 1) (w.alloc (.cells #[.int .i64 0, .int .i64 0, .int .i64 0, .int .i64 0, .slice none 0 0, .slice none 0 0] 43))).alloc (by simp) (.cells #[.slice A n c, .int .i64 0, .bool false] 80)
  have HP0 : Hid (PAt (w.heap.size + 2) (w.heap.size + 1) (bs, false) ((w.alloc (.cells #[.int .i64 0, .int .i64 0, .int .i64 0, .int .i64 0, .slice none 0 0, .slice none 0 0] 43)).alloc (.cells #[.slice A n c, .int .i64 0, .bool false] 80))) := hide
    ⟨A, n, c, 0, bs, hp, (hr.below b0).more (by omega), by simp, by omega, hc, by omega, by omega, by simp⟩
  have HRA := hide hr
  have HZ := hide (hz0.alloc (.cells #[.slice A n c, .int .i64 0, .bool false] 80))
  have HB := hide b0
  have HB1 := hide b1
  clear hr hz0 hp b0 b1
  have XN : Hid (Calls Try.prog 58 #[.pointer (some ⟨w.heap.size + 1, 0, none⟩), .int .i64 1] ((w.alloc (.cells #[.int .i64 0, .int .i64 0, .int .i64 0, .int .i64 0, .slice none 0 0, .slice none 0 0] 43)).alloc (.cells #[.slice A n c, .int .i64 0, .bool false] 80)) fun e w' => e = .returned (.int .i64 ((numS 1 (bs, false)).1 : Int)) ∧ PAt (w.heap.size + 2) (w.heap.size + 1) (numS 1 (bs, false)).2 w' ∧ Fr (w.heap.size + 1) ((w.alloc (.cells #[.int .i64 0, .int .i64 0, .int .i64 0, .int .i64 0, .slice none 0 0, .slice none 0 0] 43)).alloc (.cells #[.slice A n c, .int .i64 0, .bool false] 80)) w') := hide (rnum_any _ _ 1 _ _ HP0.out (by omega) (by omega))
  have HQ : Hid (refR op bs = foldP rpC (LrO op ((numS 1 (bs, false)).1 : Int)) (zP ((numS 1 (bs, false)).1 : Int), (numS 1 (bs, false)).2)) := hide rfl
  have XR := hide (fun V => replies_any op V o1 o2)
  have hlc := (repliesP_in op o1 o2).2
  have hl3 := (repliesP_in op o1 o2).1
  have g1 : ¬ op < 1 := by omega
  have g2 : ¬ 16 < op := by omega
  generalize refR op bs = Q9 at *
  generalize numS 1 (bs, false) = r0 at *
  obtain ⟨op0, st0⟩ := r0
  dsimp only at XN HQ hz
  generalize (op0 : Int) = eI at *
  have hL : LrO op eI = repliesP op := by unfold LrO; rw [if_pos (by simpa using hz)]
  rw [hL] at HQ
  clear hL
  go_enter Try.func23, Try.ntmps23
  go_wp2_with fail
  refine XN.out.mono ?_
  rintro e w1 ⟨rfl, hin, hfr⟩
  have HF1 := hide hfr
  have hs1 := hfr.size
  have hs2 : w.heap.size + 2 ≤ w1.heap.size := by have := hin.lt; omega
  have b2 : Below (w.heap.size + 1) (w.alloc (.cells #[.int .i64 0, .int .i64 0, .int .i64 0, .int .i64 0, .slice none 0 0, .slice none 0 0] 43)) w1 := HB1.out.trans ⟨hfr.os, hfr.tape, hfr.output, hfr.size, fun x hx => hfr.block x (by simp; omega) (by omega)⟩
  have b3 := b2.alloc (by omega) (.cells #[.int .i64 eI, .int .i64 0, .int .i64 0, .int .i64 0, .slice none 0 0, .slice none 0 0] 43)
  have s3 : (w1.alloc (.cells #[.int .i64 eI, .int .i64 0, .int .i64 0, .int .i64 0, .slice none 0 0, .slice none 0 0] 43)).heap.size = w1.heap.size + 1 := by simp
  have HK1 : Hid (RR (w.alloc (.cells #[.int .i64 0, .int .i64 0, .int .i64 0, .int .i64 0, .slice none 0 0, .slice none 0 0] 43)) (w.heap.size + 1) (w1.heap.size + 1) (w.heap.size + 1) w1.heap.size (zP eI, st0) (w1.alloc (.cells #[.int .i64 eI, .int .i64 0, .int .i64 0, .int .i64 0, .slice none 0 0, .slice none 0 0] 43))) := hide
    ⟨pat_more (hin.keep (fun x hx => Below.heap_alloc w1 _ x (by have := hin.lt; omega)) (by simp)) (by omega) (by simp), ⟨none, 0, 0, none, 0, 0, ⟨Blk.new w1 43 #[.int .i64 eI, .int .i64 0, .int .i64 0, .int .i64 0, .slice none 0 0, .slice none 0 0], FR.nil _ _, FR.nil _ _⟩⟩, b3, by omega, by omega, by omega⟩
  have HLC := hide hlc
  have HKP : Hid (∀ l, (foldP rpC l (zP eI, st0)).1.err = eI ∧ (foldP rpC l (zP eI, st0)).1.names.length ≤ 255) := hide (fun l => foldP_keep l (zP eI, st0) (by simp [zP]))
  clear hin hfr XN HP0 b2 b3 hlc
  go_wp2_with fail
  refine (XR.out _).mono ?_
  rintro e w3 ⟨rfl, hb3⟩
  have HK3 : Hid (RR (w.alloc (.cells #[.int .i64 0, .int .i64 0, .int .i64 0, .int .i64 0, .slice none 0 0, .slice none 0 0] 43)) (w.heap.size + 1) (w1.heap.size + 1) (w.heap.size + 1) w1.heap.size (zP eI, st0) w3) := hide (HK1.out.fr (HK1.out.1.keep (fun x hx => hb3.block x (by rw [s3]; exact hx)) hb3.size) (Fr.of_below hb3))
  clear hb3 HK1 XR s3
  generalize repliesP op = l at *
  generalize (zP eI, st0) = p0 at *
  have HKE := hide (fun l => (HKP.out l).1)
  have HLN : Hid (Q9.1.names.length ≤ 255) := hide (by rw [HQ.out]; exact (HKP.out _).2)
  clear HKP
  go_wp2_with fail
  go_loopw [9] (fun s9 wx => ∃ i : Nat, i ≤ l.length ∧ s9 = .int .i64 (i : Int) ∧ Hid (RR (w.alloc (.cells #[.int .i64 0, .int .i64 0, .int .i64 0, .int .i64 0, .slice none 0 0, .slice none 0 0] 43)) (w.heap.size + 1) (w1.heap.size + 1) (w.heap.size + 1) w1.heap.size (foldP rpC (l.take i) p0) wx)) (fun i _ => l.length - (intOf i).toNat)
  case atStart => exact ⟨0, Nat.zero_le _, rfl, HK3⟩
  case round =>
    obtain ⟨i, hi', rfl, HKx⟩ := hrel
    have hc0 := HKx.out.c0
    rw [HKE.out] at hc0
    by_cases hlt : i < l.length
    · have hlt1 : (i : Int) < (l.length : Int) := by omega
      have hi0 : (0 : Int) ≤ (i : Int) := by omega
      have v1 : IntKind.i64.wrap ((i : Int) + 1) = (i : Int) + 1 := by simp [IntKind.wrap, IntKind.bits, IntKind.signed]; omega
      have hx : l[i]? = some (l[i]) := List.getElem?_eq_getElem hlt
      have hM : l[i] ∈ chrR := HLC.out _ (List.getElem_mem hlt)
      obtain ⟨x, hxe⟩ : ∃ x, l[i] = x := ⟨_, rfl⟩
      rw [hxe] at hx hM
      have HN := hide (foldP_next rpC l p0 i x hx)
      have hix := fun W => ix_l l i x hx W
      clear hx hxe
      generalize foldP rpC (l.take i) p0 = q at *
      obtain ⟨r, st⟩ := q
      simp only [chrR, List.mem_cons, List.mem_nil_iff, or_false] at hM
      rcases hM with rfl | rfl | rfl | rfl | rfl
      · have hix0 : ∀ W, (Instr.index 9 (.string ⟨l.toArray⟩) (.int .i64 (i : Int))).run Try.prog W = .ok (.int .u8 72) W := hix
        have HC : Hid (rpC 72 (r, st) = rpH (r, st)) := hide (by unfold rpC; rw [if_pos rfl])
        rw [HC.out] at HN
        have XP := hide (rint_any (w1.heap.size + 1) (w.heap.size + 1) st wr HKx.out.1)
        unfold rpH at HN
        dsimp only at HN
        generalize intS st = y at *
        obtain ⟨x, st'⟩ := y
        dsimp only at XP HN
        clear hix HC
        go_wp2_with fail
        with_reducible refine XP.out.mono ?_
        rintro e w4 ⟨rfl, hin, hfr⟩
        have HK4 := hide (HKx.out.fr hin hfr)
        obtain ⟨_, ⟨D, dn, dc, A', an, ac, hdk⟩, -⟩ := HK4.out
        have ck := hdk.k.cell 1
        have fk := hdk.k.frozen 1
        have hkl := hdk.k.lt
        unfold pcs at ck
        simp only [List.getElem?_toArray, List.getElem?_cons_succ, List.getElem?_cons_zero] at ck
        clear hdk hin hfr XP hc0
        go_wp2_with fail
        go_roundw
        case rel =>
          refine ⟨i + 1, by omega, by go_num, ?_⟩
          rw [HN.out]
          refine hide (HK4.out.set_ 1 _ (by omega) ?_)
          intro D dn dc A' an ac hd
          exact ⟨D, dn, dc, A', an, ac, rfl, hd.d, hd.a⟩
        case measure => simp [intOf]; omega
      · have hix0 : ∀ W, (Instr.index 9 (.string ⟨l.toArray⟩) (.int .i64 (i : Int))).run Try.prog W = .ok (.int .u8 73) W := hix
        have HC : Hid (rpC 73 (r, st) = rpH2 (r, st)) := hide (by unfold rpC; rw [if_neg (by decide), if_pos rfl])
        rw [HC.out] at HN
        have XP := hide (rint_any (w1.heap.size + 1) (w.heap.size + 1) st wr HKx.out.1)
        unfold rpH2 at HN
        dsimp only at HN
        generalize intS st = y at *
        obtain ⟨x, st'⟩ := y
        dsimp only at XP HN
        clear hix HC
        go_wp2_with fail
        with_reducible refine XP.out.mono ?_
        rintro e w4 ⟨rfl, hin, hfr⟩
        have HK4 := hide (HKx.out.fr hin hfr)
        obtain ⟨_, ⟨D, dn, dc, A', an, ac, hdk⟩, -⟩ := HK4.out
        have ck := hdk.k.cell 2
        have fk := hdk.k.frozen 2
        have hkl := hdk.k.lt
        unfold pcs at ck
        simp only [List.getElem?_toArray, List.getElem?_cons_succ, List.getElem?_cons_zero] at ck
        clear hdk hin hfr XP hc0
        go_wp2_with fail
        go_roundw
        case rel =>
          refine ⟨i + 1, by omega, by go_num, ?_⟩
          rw [HN.out]
          refine hide (HK4.out.set_ 2 _ (by omega) ?_)
          intro D dn dc A' an ac hd
          exact ⟨D, dn, dc, A', an, ac, rfl, hd.d, hd.a⟩
        case measure => simp [intOf]; omega
      · have hix0 : ∀ W, (Instr.index 9 (.string ⟨l.toArray⟩) (.int .i64 (i : Int))).run Try.prog W = .ok (.int .u8 78) W := hix
        have HC : Hid (rpC 78 (r, st) = rpN (r, st)) := hide (by unfold rpC; rw [if_neg (by decide), if_neg (by decide), if_pos rfl])
        rw [HC.out] at HN
        have XP := hide (rint_any (w1.heap.size + 1) (w.heap.size + 1) st wr HKx.out.1)
        unfold rpN at HN
        dsimp only at HN
        generalize intS st = y at *
        obtain ⟨x, st'⟩ := y
        dsimp only at XP HN
        clear hix HC
        go_wp2_with fail
        with_reducible refine XP.out.mono ?_
        rintro e w4 ⟨rfl, hin, hfr⟩
        have HK4 := hide (HKx.out.fr hin hfr)
        obtain ⟨_, ⟨D, dn, dc, A', an, ac, hdk⟩, -⟩ := HK4.out
        have ck := hdk.k.cell 3
        have fk := hdk.k.frozen 3
        have hkl := hdk.k.lt
        unfold pcs at ck
        simp only [List.getElem?_toArray, List.getElem?_cons_succ, List.getElem?_cons_zero] at ck
        clear hdk hin hfr XP hc0
        go_wp2_with fail
        go_roundw
        case rel =>
          refine ⟨i + 1, by omega, by go_num, ?_⟩
          rw [HN.out]
          refine hide (HK4.out.set_ 3 _ (by omega) ?_)
          intro D dn dc A' an ac hd
          exact ⟨D, dn, dc, A', an, ac, rfl, hd.d, hd.a⟩
        case measure => simp [intOf]; omega
      · have hix0 : ∀ W, (Instr.index 9 (.string ⟨l.toArray⟩) (.int .i64 (i : Int))).run Try.prog W = .ok (.int .u8 68) W := hix
        have HC : Hid (rpC 68 (r, st) = rpD (r, st)) := hide (by unfold rpC; rw [if_neg (by decide), if_neg (by decide), if_neg (by decide), if_pos rfl])
        rw [HC.out] at HN
        have XP := hide (rtxt_any (w1.heap.size + 1) (w.heap.size + 1) st wr HKx.out.1)
        unfold rpD at HN
        dsimp only at HN
        generalize txtS st = y at *
        obtain ⟨x, st'⟩ := y
        dsimp only at XP HN
        clear hix HC
        go_wp2_with fail
        with_reducible refine XP.out.mono ?_
        rintro e w4 ⟨rfl, hin, hfr⟩
        have HK4 := hide (HKx.out.fr hin hfr)
        obtain ⟨w5, cp, hcv, hcr, hcb⟩ := conv_rd x w4
        have HK5 := hide (HK4.out.fr (HK4.out.1.keep (fun z hz => hcb.block z (by have := HK4.out.1.lt; omega)) hcb.size) (Fr.of_below hcb))
        have HFd : Hid (FR (w1.heap.size + 1) w5 (some ⟨w4.heap.size, 0, none⟩) x.length (bv x)) := hide ⟨hcr, fun ad h _ => by injection h with h; subst h; exact HK4.out.1.lt.2⟩
        obtain ⟨_, ⟨D, dn, dc, A', an, ac, hdk⟩, -⟩ := HK5.out
        have ck := hdk.k.cell 4
        have fk := hdk.k.frozen 4
        have hkl := hdk.k.lt
        unfold pcs at ck
        simp only [List.getElem?_toArray, List.getElem?_cons_succ, List.getElem?_cons_zero] at ck
        clear hdk hin hfr XP hc0
        go_wp2_with fail
        go_roundw
        case rel =>
          refine ⟨i + 1, by omega, by go_num, ?_⟩
          rw [HN.out]
          refine hide (HK5.out.set_ 4 _ (by omega) ?_)
          intro D dn dc A' an ac hd
          exact ⟨_, _, _, A', an, ac, rfl, HFd.out, hd.a⟩
        case measure => simp [intOf]; omega
      · have hix0 : ∀ W, (Instr.index 9 (.string ⟨l.toArray⟩) (.int .i64 (i : Int))).run Try.prog W = .ok (.int .u8 83) W := hix
        have HC : Hid (rpC 83 (r, st) = rpS2 (r, st)) := hide (by unfold rpC; rw [if_neg (by decide), if_neg (by decide), if_neg (by decide), if_neg (by decide)])
        rw [HC.out] at HN
        have XP := hide (rtxts_any (w1.heap.size + 1) (w.heap.size + 1) st wr HKx.out.1)
        unfold rpS2 at HN
        dsimp only at HN
        generalize listR txtS st = y at *
        obtain ⟨x, st'⟩ := y
        dsimp only at XP HN
        clear hix HC
        go_wp2_with fail
        with_reducible refine XP.out.mono ?_
        rintro e w4 ⟨A9, n9, c9, rfl, ho, hin, hfr⟩
        have HK4 := hide (HKx.out.fr hin hfr)
        have HFd := hide (FR.own (own_more ho HKx.out.1.lt.2))
        obtain ⟨_, ⟨D, dn, dc, A', an, ac, hdk⟩, -⟩ := HK4.out
        have ck := hdk.k.cell 5
        have fk := hdk.k.frozen 5
        have hkl := hdk.k.lt
        unfold pcs at ck
        simp only [List.getElem?_toArray, List.getElem?_cons_succ, List.getElem?_cons_zero] at ck
        clear hdk hin hfr XP hc0 ho
        go_wp2_with fail
        go_roundw
        case rel =>
          refine ⟨i + 1, by omega, by go_num, ?_⟩
          rw [HN.out]
          refine hide (HK4.out.set_ 5 _ (by omega) ?_)
          intro D dn dc A' an ac hd
          exact ⟨D, dn, dc, _, _, _, rfl, hd.d, HFd.out⟩
        case measure => simp [intOf]; omega
    · obtain rfl : i = l.length := by omega
      have hlt1 : ¬ (l.length : Int) < (l.length : Int) := by omega
      rw [List.take_length, ← HQ.out] at HKx
      obtain ⟨r9, st9⟩ := Q9
      dsimp only at HR HLN
      have HBx := hide HKx.out.2.2.1
      obtain ⟨⟨IA, In, Ic, Iat, Ibs, n1, -⟩, ⟨D, dn, dc, E1, an, ac, hdk⟩, -, hgB, -⟩ := HKx.out
      have HP9 : Hid (Blk wr (w.heap.size + 1) 80 #[.slice IA In Ic, .int .i64 (Iat : Nat), .bool st9.2]) := hide n1
      have HDK : Hid (DrAt (w1.heap.size + 1) w1.heap.size r9 wr D E1 dn dc an ac) := hide hdk
      have k9 := HDK.out.k
      unfold pcs at k9
      have hgl := k9.lt
      clear hc0
      obtain ⟨x0, x1, x2, x3, x4, x5⟩ := blk6 k9
      have hce : r9.err = eI := by have h := HKE.out l; rw [← HQ.out] at h; exact h
      have HZx : Hid (Blk wr w.heap.size 43 #[.int .i64 0, .int .i64 0, .int .i64 0, .int .i64 0, .slice none 0 0, .slice none 0 0]) := hide ((HBx.out.block w.heap.size (by omega)).trans (Blk.new w 43 #[.int .i64 0, .int .i64 0, .int .i64 0, .int .i64 0, .slice none 0 0, .slice none 0 0]))
      have HBw : Hid (Below w.heap.size w wr) := hide (((Below.refl w.heap.size w).alloc (Nat.le_refl _) (.cells #[.int .i64 0, .int .i64 0, .int .i64 0, .int .i64 0, .slice none 0 0, .slice none 0 0] 43)).trans (HBx.out.mono (by omega)))
      have HRQ : Hid (RdP wr r9 D E1 dn dc an ac) := hide ⟨HDK.out.d.1, HDK.out.a.1⟩
      have hln : an ≤ 100000 := by
        have e1 := rd_len HRQ.out.a
        have e4 := HLN.out
        omega
      have hdl : r9.d.length = dn := by have := HRQ.out.d.1; rw [bv_length] at this; omega
      have hz9 : (r9.err == 0) = true := by rw [hce]; exact hz
      clear n1 hdk k9 HQ HLC HF1 HKx hgB HLN HKE hce
      cases hok : r9.ok (repU op).1 with
      | false =>
        have XE := hide (rer_no op r9 D E1 dn dc an ac wr HRQ.out hdl hln (by rw [hok]; simp))
        unfold RP.v at XE
        have hRn : R = none := by rw [HR.out, hok]; simp
        clear hok HR hdl hq
        go_wp2_with fail
        refine XE.out.mono ?_
        rintro e w7 ⟨rfl, hb7⟩
        have HB7 := hide (below_more HBw.out (Nat.le_refl _) hb7)
        have HZ7 := hide (HZx.out.below hb7 HZx.out.lt)
        have c2 := (HP9.out.below hb7 HP9.out.lt).cell 2
        simp only [List.getElem?_toArray, List.getElem?_cons_succ, List.getElem?_cons_zero] at c2
        clear XE hb7 x0 x1 x2 x3 x4 x5 HBw HZx
        have hgl7 := HZ7.out.lt
        obtain ⟨z0, z1, z2, z3, z4, z5⟩ := blk6 HZ7.out
        obtain ⟨f0, f1, f2, f3, f4, f5⟩ := fro6 HZ7.out
        have HE : Hid (RREnd 5 R w (.returned (.tuple #[zw, .int .i64 5])) ((((((w7.setCell ⟨w.heap.size, 0, none⟩ (.int .i64 0)).setCell ⟨w.heap.size, 1, none⟩ (.int .i64 0)).setCell ⟨w.heap.size, 2, none⟩ (.int .i64 0)).setCell ⟨w.heap.size, 3, none⟩ (.int .i64 0)).setCell ⟨w.heap.size, 4, none⟩ (.slice none 0 0)).setCell ⟨w.heap.size, 5, none⟩ (.slice none 0 0))) := hide (rr_none hRn (below6 HB7.out _ _ _ _ _ _))
        have HZe := hide (blk6s HZ7.out (.int .i64 0) (.int .i64 0) (.int .i64 0) (.int .i64 0) (.slice none 0 0) (.slice none 0 0))
        unfold zw at HE
        generalize hWE : ((((((w7.setCell ⟨w.heap.size, 0, none⟩ (.int .i64 0)).setCell ⟨w.heap.size, 1, none⟩ (.int .i64 0)).setCell ⟨w.heap.size, 2, none⟩ (.int .i64 0)).setCell ⟨w.heap.size, 3, none⟩ (.int .i64 0)).setCell ⟨w.heap.size, 4, none⟩ (.slice none 0 0)).setCell ⟨w.heap.size, 5, none⟩ (.slice none 0 0)) = WE at HE HZe
        clear hRn
        cases hsb : st9.2 with
        | true =>
          rw [hsb] at c2
          clear hsb
          go_wp2_with fail
          clear hWE z0 z1 z2 z3 z4 z5 f0 f1 f2 f3 f4 f5
          obtain ⟨z0, z1, z2, z3, z4, z5⟩ := blk6 HZe.out
          refine bodyPost_ret (v := .tuple #[.agg #[.int .i64 0, .int .i64 0, .int .i64 0, .int .i64 0, .slice none 0 0, .slice none 0 0], .int .i64 5]) (by simp only [results, Try.results23]; go_simp) rfl HE.out
        | false =>
          rw [hsb] at c2
          clear hsb
          go_wp2_with fail
          clear hWE z0 z1 z2 z3 z4 z5 f0 f1 f2 f3 f4 f5
          obtain ⟨z0, z1, z2, z3, z4, z5⟩ := blk6 HZe.out
          refine bodyPost_ret (v := .tuple #[.agg #[.int .i64 0, .int .i64 0, .int .i64 0, .int .i64 0, .slice none 0 0, .slice none 0 0], .int .i64 5]) (by simp only [results, Try.results23]; go_simp) rfl HE.out
      | true =>
        have XE := hide (rer_yes op r9 D E1 dn dc an ac wr HRQ.out hdl hq hok)
        unfold RP.v at XE
        have HRv : Hid (R = if (!st9.2 && (encP (repU op).1 r9 == bs)) = true then some r9 else none) := hide (by rw [HR.out, hok]; simp)
        clear hok HR hdl hq
        go_wp2_with fail
        refine XE.out.mono ?_
        rintro e w7 ⟨A5, n5, c5, rfl, ho5, hb7⟩
        have HB7 := hide (below_more HBw.out (Nat.le_refl _) hb7)
        have HZ7 := hide (HZx.out.below hb7 HZx.out.lt)
        have c2 := (HP9.out.below hb7 HP9.out.lt).cell 2
        simp only [List.getElem?_toArray, List.getElem?_cons_succ, List.getElem?_cons_zero] at c2
        have t1 := run_string_of (P := Try.prog) w7 w7.heap.size 22 9 5 A5 n5 c5 (encP (repU op).1 r9) Try.underlying22 Try.underlying5 Try.underlying9 ho5.rd
        have t2 := run_string_of (P := Try.prog) w7 w7.heap.size 22 9 5 A n c bs Try.underlying22 Try.underlying5 Try.underlying9 (rdb HRA.out HB7.out)
        have HD7 := hide (HDK.out.d.keep (fun x hx hl => hb7.block x hl) hb7.size)
        have HA7 := hide (HDK.out.a.keep (fun x hx hl => hb7.block x hl) hb7.size)
        have k7 := HDK.out.k.below hb7 hgl
        unfold pcs at k7
        clear XE hb7 ho5 x0 x1 x2 x3 x4 x5 HBw HZx HDK
        obtain ⟨x0, x1, x2, x3, x4, x5⟩ := blk6 k7
        have hgl7 := HZ7.out.lt
        have hgk7 := k7.lt
        clear k7
        generalize encP (repU op).1 r9 = es at *
        cases hsb : st9.2 with
        | true =>
          rw [hsb] at c2 HRv
          have hRn : R = none := by rw [HRv.out]; simp
          clear hsb HRv
          obtain ⟨z0, z1, z2, z3, z4, z5⟩ := blk6 HZ7.out
          obtain ⟨f0, f1, f2, f3, f4, f5⟩ := fro6 HZ7.out
          have HE : Hid (RREnd 5 R w (.returned (.tuple #[zw, .int .i64 5])) ((((((w7.setCell ⟨w.heap.size, 0, none⟩ (.int .i64 0)).setCell ⟨w.heap.size, 1, none⟩ (.int .i64 0)).setCell ⟨w.heap.size, 2, none⟩ (.int .i64 0)).setCell ⟨w.heap.size, 3, none⟩ (.int .i64 0)).setCell ⟨w.heap.size, 4, none⟩ (.slice none 0 0)).setCell ⟨w.heap.size, 5, none⟩ (.slice none 0 0))) := hide (rr_none hRn (below6 HB7.out _ _ _ _ _ _))
          have HZe := hide (blk6s HZ7.out (.int .i64 0) (.int .i64 0) (.int .i64 0) (.int .i64 0) (.slice none 0 0) (.slice none 0 0))
          unfold zw at HE
          generalize hWE : ((((((w7.setCell ⟨w.heap.size, 0, none⟩ (.int .i64 0)).setCell ⟨w.heap.size, 1, none⟩ (.int .i64 0)).setCell ⟨w.heap.size, 2, none⟩ (.int .i64 0)).setCell ⟨w.heap.size, 3, none⟩ (.int .i64 0)).setCell ⟨w.heap.size, 4, none⟩ (.slice none 0 0)).setCell ⟨w.heap.size, 5, none⟩ (.slice none 0 0)) = WE at HE HZe
          clear hRn
          go_wp2_with fail
          clear hWE z0 z1 z2 z3 z4 z5 f0 f1 f2 f3 f4 f5
          obtain ⟨z0, z1, z2, z3, z4, z5⟩ := blk6 HZe.out
          refine bodyPost_ret (v := .tuple #[.agg #[.int .i64 0, .int .i64 0, .int .i64 0, .int .i64 0, .slice none 0 0, .slice none 0 0], .int .i64 5]) (by simp only [results, Try.results23]; go_simp) rfl HE.out
        | false =>
          rw [hsb] at c2 HRv
          clear hsb
          cases he : (es == bs) with
          | false =>
            have hne : (es != bs) = true := by simp [bne, he]
            have hRn : R = none := by rw [HRv.out, he]; simp
            clear HRv
            obtain ⟨z0, z1, z2, z3, z4, z5⟩ := blk6 HZ7.out
            obtain ⟨f0, f1, f2, f3, f4, f5⟩ := fro6 HZ7.out
            have HE : Hid (RREnd 5 R w (.returned (.tuple #[zw, .int .i64 5])) ((((((w7.setCell ⟨w.heap.size, 0, none⟩ (.int .i64 0)).setCell ⟨w.heap.size, 1, none⟩ (.int .i64 0)).setCell ⟨w.heap.size, 2, none⟩ (.int .i64 0)).setCell ⟨w.heap.size, 3, none⟩ (.int .i64 0)).setCell ⟨w.heap.size, 4, none⟩ (.slice none 0 0)).setCell ⟨w.heap.size, 5, none⟩ (.slice none 0 0))) := hide (rr_none hRn (below6 HB7.out _ _ _ _ _ _))
            have HZe := hide (blk6s HZ7.out (.int .i64 0) (.int .i64 0) (.int .i64 0) (.int .i64 0) (.slice none 0 0) (.slice none 0 0))
            unfold zw at HE
            generalize hWE : ((((((w7.setCell ⟨w.heap.size, 0, none⟩ (.int .i64 0)).setCell ⟨w.heap.size, 1, none⟩ (.int .i64 0)).setCell ⟨w.heap.size, 2, none⟩ (.int .i64 0)).setCell ⟨w.heap.size, 3, none⟩ (.int .i64 0)).setCell ⟨w.heap.size, 4, none⟩ (.slice none 0 0)).setCell ⟨w.heap.size, 5, none⟩ (.slice none 0 0)) = WE at HE HZe
            clear hRn
            go_wp2_with fail
            clear hWE z0 z1 z2 z3 z4 z5 f0 f1 f2 f3 f4 f5
            obtain ⟨z0, z1, z2, z3, z4, z5⟩ := blk6 HZe.out
            refine bodyPost_ret (v := .tuple #[.agg #[.int .i64 0, .int .i64 0, .int .i64 0, .int .i64 0, .slice none 0 0, .slice none 0 0], .int .i64 5]) (by simp only [results, Try.results23]; go_simp) rfl HE.out
          | true =>
            have hne : (es != bs) = false := by simp [bne, he]
            have hRs : R = some r9 := by rw [HRv.out, he]; simp
            clear HRv
            have HE : Hid (RREnd 5 R w (.returned (.tuple #[r9.v D E1 dn dc an ac, .int .i64 0])) ((((((w7.setCell ⟨w.heap.size, 0, none⟩ (.int .i64 r9.err)).setCell ⟨w.heap.size, 1, none⟩ (.int .i64 r9.h)).setCell ⟨w.heap.size, 2, none⟩ (.int .i64 r9.h2)).setCell ⟨w.heap.size, 3, none⟩ (.int .i64 r9.n)).setCell ⟨w.heap.size, 4, none⟩ (.slice D dn dc)).setCell ⟨w.heap.size, 5, none⟩ (.slice E1 an ac))) := hide (by
              rw [hRs]
              exact ⟨D, dn, dc, E1, an, ac, rfl, ⟨rd6 (fr_low6 HD7.out (by omega)) _ _ _ _ _ _, rd6 (fr_low6 HA7.out (by omega)) _ _ _ _ _ _⟩, below6 HB7.out _ _ _ _ _ _⟩)
            have HZe := hide (blk6s HZ7.out (.int .i64 r9.err) (.int .i64 r9.h) (.int .i64 r9.h2) (.int .i64 r9.n) (.slice D dn dc) (.slice E1 an ac))
            obtain ⟨z0, z1, z2, z3, z4, z5⟩ := blk6 HZ7.out
            obtain ⟨f0, f1, f2, f3, f4, f5⟩ := fro6 HZ7.out
            unfold RP.v at HE
            generalize hWE : ((((((w7.setCell ⟨w.heap.size, 0, none⟩ (.int .i64 r9.err)).setCell ⟨w.heap.size, 1, none⟩ (.int .i64 r9.h)).setCell ⟨w.heap.size, 2, none⟩ (.int .i64 r9.h2)).setCell ⟨w.heap.size, 3, none⟩ (.int .i64 r9.n)).setCell ⟨w.heap.size, 4, none⟩ (.slice D dn dc)).setCell ⟨w.heap.size, 5, none⟩ (.slice E1 an ac)) = WE at HE HZe
            clear hRs
            go_wp2_with fail
            clear hWE z0 z1 z2 z3 z4 z5 f0 f1 f2 f3 f4 f5 x0 x1 x2 x3 x4 x5
            obtain ⟨z0, z1, z2, z3, z4, z5⟩ := blk6 HZe.out
            refine bodyPost_ret (v := .tuple #[.agg #[.int .i64 r9.err, .int .i64 r9.h, .int .i64 r9.h2, .int .i64 r9.n, .slice D dn dc, .slice E1 an ac], .int .i64 0]) (by simp only [results, Try.results23]; go_simp) rfl HE.out
set_option maxRecDepth 100000 in
set_option maxHeartbeats 16000000 in
theorem rdr_err (op : Int) (bs : LB) (A : Option Addr) (n c : Nat) (w : World) (hr : Rd w A n bs) (hn : n ≤ 100000) (hc : n ≤ c) (o1 : 1 ≤ op) (o2 : op ≤ 16) (hz : (((numS 1 (bs, false)).1 : Int) == 0) = false) : Calls Try.prog 23 #[.int .i64 op, .slice A n c] w fun e w' => RREnd 5 (decR (repU op) bs) w e w' := by
  have HR : Hid (decR (repU op) bs = if (!(refR op bs).2.2 && ((refR op bs).1.ok (repU op).1 && (encP (repU op).1 (refR op bs).1 == bs))) = true then some (refR op bs).1 else none) := hide (refDR_eq op bs o1 o2).symm
  have hq := (rep_in o1 o2).2
  generalize decR (repU op) bs = R at *
  have s0 : (w.alloc (.cells #[.int .i64 0, .int .i64 0, .int .i64 0, .int .i64 0, .slice none 0 0, .slice none 0 0] 43)).heap.size = w.heap.size + 1 := by simp
  have hz0 := Blk.new w 43 #[.int .i64 0, .int .i64 0, .int .i64 0, .int .i64 0, .slice none 0 0, .slice none 0 0]
  have hp := Blk.new (w.alloc (.cells #[.int .i64 0, .int .i64 0, .int .i64 0, .int .i64 0, .slice none 0 0, .slice none 0 0] 43)) 80 #[.slice A n c, .int .i64 0, .bool false]
  rw [s0] at hp
  have b0 := ((Below.refl w.heap.size w).alloc (Nat.le_refl _) (.cells #[.int .i64 0, .int .i64 0, .int .i64 0, .int .i64 0, .slice none 0 0, .slice none 0 0] 43)).alloc (by simp) (.cells #[.slice A n c, .int .i64 0, .bool false] 80)
  have b1 := (Below.refl (w.heap.size + 1) (w.alloc (.cells #[.int .i64 0, .int .i64 0, .int .i64 0, .int .i64 0, .slice none 0 0, .slice none 0 0] 43))).alloc (by simp) (.cells #[.slice A n c, .int .i64 0, .bool false] 80)
  have HP0 : Hid (PAt (w.heap.size + 2) (w.heap.size + 1) (bs, false) ((w.alloc (.cells #[.int .i64 0, .int .i64 0, .int .i64 0, .int .i64 0, .slice none 0 0, .slice none 0 0] 43)).alloc (.cells #[.slice A n c, .int .i64 0, .bool false] 80))) := hide
    ⟨A, n, c, 0, bs, hp, (hr.below b0).more (by omega), by simp, by omega, hc, by omega, by omega, by simp⟩
  have HRA := hide hr
  have HZ := hide (hz0.alloc (.cells #[.slice A n c, .int .i64 0, .bool false] 80))
  have HB := hide b0
  have HB1 := hide b1
  clear hr hz0 hp b0 b1
  have XN : Hid (Calls Try.prog 58 #[.pointer (some ⟨w.heap.size + 1, 0, none⟩), .int .i64 1] ((w.alloc (.cells #[.int .i64 0, .int .i64 0, .int .i64 0, .int .i64 0, .slice none 0 0, .slice none 0 0] 43)).alloc (.cells #[.slice A n c, .int .i64 0, .bool false] 80)) fun e w' => e = .returned (.int .i64 ((numS 1 (bs, false)).1 : Int)) ∧ PAt (w.heap.size + 2) (w.heap.size + 1) (numS 1 (bs, false)).2 w' ∧ Fr (w.heap.size + 1) ((w.alloc (.cells #[.int .i64 0, .int .i64 0, .int .i64 0, .int .i64 0, .slice none 0 0, .slice none 0 0] 43)).alloc (.cells #[.slice A n c, .int .i64 0, .bool false] 80)) w') := hide (rnum_any _ _ 1 _ _ HP0.out (by omega) (by omega))
  have HQ : Hid (refR op bs = foldP rpC (LrO op ((numS 1 (bs, false)).1 : Int)) (zP ((numS 1 (bs, false)).1 : Int), (numS 1 (bs, false)).2)) := hide rfl
  have XR := hide (fun V => replies_any op V o1 o2)
  have hlc := (repliesP_in op o1 o2).2
  have hl3 := (repliesP_in op o1 o2).1
  have g1 : ¬ op < 1 := by omega
  have g2 : ¬ 16 < op := by omega
  generalize refR op bs = Q9 at *
  generalize numS 1 (bs, false) = r0 at *
  obtain ⟨op0, st0⟩ := r0
  dsimp only at XN HQ hz
  generalize (op0 : Int) = eI at *
  have hL : LrO op eI = [] := by unfold LrO; rw [if_neg (by simpa using hz)]
  rw [hL] at HQ
  clear hL
  go_enter Try.func23, Try.ntmps23
  go_wp2_with fail
  refine XN.out.mono ?_
  rintro e w1 ⟨rfl, hin, hfr⟩
  have HF1 := hide hfr
  have hs1 := hfr.size
  have hs2 : w.heap.size + 2 ≤ w1.heap.size := by have := hin.lt; omega
  have b2 : Below (w.heap.size + 1) (w.alloc (.cells #[.int .i64 0, .int .i64 0, .int .i64 0, .int .i64 0, .slice none 0 0, .slice none 0 0] 43)) w1 := HB1.out.trans ⟨hfr.os, hfr.tape, hfr.output, hfr.size, fun x hx => hfr.block x (by simp; omega) (by omega)⟩
  have b3 := b2.alloc (by omega) (.cells #[.int .i64 eI, .int .i64 0, .int .i64 0, .int .i64 0, .slice none 0 0, .slice none 0 0] 43)
  have s3 : (w1.alloc (.cells #[.int .i64 eI, .int .i64 0, .int .i64 0, .int .i64 0, .slice none 0 0, .slice none 0 0] 43)).heap.size = w1.heap.size + 1 := by simp
  have HK1 : Hid (RR (w.alloc (.cells #[.int .i64 0, .int .i64 0, .int .i64 0, .int .i64 0, .slice none 0 0, .slice none 0 0] 43)) (w.heap.size + 1) (w1.heap.size + 1) (w.heap.size + 1) w1.heap.size (zP eI, st0) (w1.alloc (.cells #[.int .i64 eI, .int .i64 0, .int .i64 0, .int .i64 0, .slice none 0 0, .slice none 0 0] 43))) := hide
    ⟨pat_more (hin.keep (fun x hx => Below.heap_alloc w1 _ x (by have := hin.lt; omega)) (by simp)) (by omega) (by simp), ⟨none, 0, 0, none, 0, 0, ⟨Blk.new w1 43 #[.int .i64 eI, .int .i64 0, .int .i64 0, .int .i64 0, .slice none 0 0, .slice none 0 0], FR.nil _ _, FR.nil _ _⟩⟩, b3, by omega, by omega, by omega⟩
  have HLC := hide hlc
  have HKP : Hid (∀ l, (foldP rpC l (zP eI, st0)).1.err = eI ∧ (foldP rpC l (zP eI, st0)).1.names.length ≤ 255) := hide (fun l => foldP_keep l (zP eI, st0) (by simp [zP]))
  clear hin hfr XN HP0 b2 b3 hlc
  go_wp2_with fail
  refine (XR.out _).mono ?_
  rintro e w3 ⟨rfl, hb3⟩
  have HK3 : Hid (RR (w.alloc (.cells #[.int .i64 0, .int .i64 0, .int .i64 0, .int .i64 0, .slice none 0 0, .slice none 0 0] 43)) (w.heap.size + 1) (w1.heap.size + 1) (w.heap.size + 1) w1.heap.size (zP eI, st0) w3) := hide (HK1.out.fr (HK1.out.1.keep (fun x hx => hb3.block x (by rw [s3]; exact hx)) hb3.size) (Fr.of_below hb3))
  clear hb3 HK1 XR s3
  generalize repliesP op = l at *
  generalize (zP eI, st0) = p0 at *
  have HKE := hide (fun l => (HKP.out l).1)
  have HLN : Hid (Q9.1.names.length ≤ 255) := hide (by rw [HQ.out]; exact (HKP.out _).2)
  clear HKP
  go_wp2_with fail
  go_loopw [9] (fun s9 wx => ∃ i : Nat, i ≤ ([] : LB).length ∧ s9 = .int .i64 (i : Int) ∧ Hid (RR (w.alloc (.cells #[.int .i64 0, .int .i64 0, .int .i64 0, .int .i64 0, .slice none 0 0, .slice none 0 0] 43)) (w.heap.size + 1) (w1.heap.size + 1) (w.heap.size + 1) w1.heap.size (foldP rpC (([] : LB).take i) p0) wx)) (fun i _ => l.length - (intOf i).toNat)
  case atStart => exact ⟨0, Nat.zero_le _, rfl, HK3⟩
  case round =>
    obtain ⟨i, hi', rfl, HKx⟩ := hrel
    have hc0 := HKx.out.c0
    rw [HKE.out] at hc0
    obtain rfl : i = 0 := by have : ([] : LB).length = 0 := rfl; omega
    rw [List.take_nil, ← HQ.out] at HKx
    by_cases hlt : (0 : Int) < (l.length : Int)
    · skip
      obtain ⟨r9, st9⟩ := Q9
      dsimp only at HR HLN
      have HBx := hide HKx.out.2.2.1
      obtain ⟨⟨IA, In, Ic, Iat, Ibs, n1, -⟩, ⟨D, dn, dc, E1, an, ac, hdk⟩, -, hgB, -⟩ := HKx.out
      have HP9 : Hid (Blk wr (w.heap.size + 1) 80 #[.slice IA In Ic, .int .i64 (Iat : Nat), .bool st9.2]) := hide n1
      have HDK : Hid (DrAt (w1.heap.size + 1) w1.heap.size r9 wr D E1 dn dc an ac) := hide hdk
      have k9 := HDK.out.k
      unfold pcs at k9
      have hgl := k9.lt
      clear hc0
      obtain ⟨x0, x1, x2, x3, x4, x5⟩ := blk6 k9
      have hce : r9.err = eI := by have h := HKE.out ([] : LB); rw [← HQ.out] at h; exact h
      have HZx : Hid (Blk wr w.heap.size 43 #[.int .i64 0, .int .i64 0, .int .i64 0, .int .i64 0, .slice none 0 0, .slice none 0 0]) := hide ((HBx.out.block w.heap.size (by omega)).trans (Blk.new w 43 #[.int .i64 0, .int .i64 0, .int .i64 0, .int .i64 0, .slice none 0 0, .slice none 0 0]))
      have HBw : Hid (Below w.heap.size w wr) := hide (((Below.refl w.heap.size w).alloc (Nat.le_refl _) (.cells #[.int .i64 0, .int .i64 0, .int .i64 0, .int .i64 0, .slice none 0 0, .slice none 0 0] 43)).trans (HBx.out.mono (by omega)))
      have HRQ : Hid (RdP wr r9 D E1 dn dc an ac) := hide ⟨HDK.out.d.1, HDK.out.a.1⟩
      have hln : an ≤ 100000 := by
        have e1 := rd_len HRQ.out.a
        have e4 := HLN.out
        omega
      have hdl : r9.d.length = dn := by have := HRQ.out.d.1; rw [bv_length] at this; omega
      have hz9 : (r9.err == 0) = false := by rw [hce]; exact hz
      clear n1 hdk k9 HQ HLC HF1 HKx hgB HLN HKE hce
      cases hok : r9.ok (repU op).1 with
      | false =>
        have XE := hide (rer_no op r9 D E1 dn dc an ac wr HRQ.out hdl hln (by rw [hok]; simp))
        unfold RP.v at XE
        have hRn : R = none := by rw [HR.out, hok]; simp
        clear hok HR hdl hq
        go_wp2_with fail
        refine XE.out.mono ?_
        rintro e w7 ⟨rfl, hb7⟩
        have HB7 := hide (below_more HBw.out (Nat.le_refl _) hb7)
        have HZ7 := hide (HZx.out.below hb7 HZx.out.lt)
        have c2 := (HP9.out.below hb7 HP9.out.lt).cell 2
        simp only [List.getElem?_toArray, List.getElem?_cons_succ, List.getElem?_cons_zero] at c2
        clear XE hb7 x0 x1 x2 x3 x4 x5 HBw HZx
        have hgl7 := HZ7.out.lt
        obtain ⟨z0, z1, z2, z3, z4, z5⟩ := blk6 HZ7.out
        obtain ⟨f0, f1, f2, f3, f4, f5⟩ := fro6 HZ7.out
        have HE : Hid (RREnd 5 R w (.returned (.tuple #[zw, .int .i64 5])) ((((((w7.setCell ⟨w.heap.size, 0, none⟩ (.int .i64 0)).setCell ⟨w.heap.size, 1, none⟩ (.int .i64 0)).setCell ⟨w.heap.size, 2, none⟩ (.int .i64 0)).setCell ⟨w.heap.size, 3, none⟩ (.int .i64 0)).setCell ⟨w.heap.size, 4, none⟩ (.slice none 0 0)).setCell ⟨w.heap.size, 5, none⟩ (.slice none 0 0))) := hide (rr_none hRn (below6 HB7.out _ _ _ _ _ _))
        have HZe := hide (blk6s HZ7.out (.int .i64 0) (.int .i64 0) (.int .i64 0) (.int .i64 0) (.slice none 0 0) (.slice none 0 0))
        unfold zw at HE
        generalize hWE : ((((((w7.setCell ⟨w.heap.size, 0, none⟩ (.int .i64 0)).setCell ⟨w.heap.size, 1, none⟩ (.int .i64 0)).setCell ⟨w.heap.size, 2, none⟩ (.int .i64 0)).setCell ⟨w.heap.size, 3, none⟩ (.int .i64 0)).setCell ⟨w.heap.size, 4, none⟩ (.slice none 0 0)).setCell ⟨w.heap.size, 5, none⟩ (.slice none 0 0)) = WE at HE HZe
        clear hRn
        cases hsb : st9.2 with
        | true =>
          rw [hsb] at c2
          clear hsb
          go_wp2_with fail
          clear hWE z0 z1 z2 z3 z4 z5 f0 f1 f2 f3 f4 f5
          obtain ⟨z0, z1, z2, z3, z4, z5⟩ := blk6 HZe.out
          refine bodyPost_ret (v := .tuple #[.agg #[.int .i64 0, .int .i64 0, .int .i64 0, .int .i64 0, .slice none 0 0, .slice none 0 0], .int .i64 5]) (by simp only [results, Try.results23]; go_simp) rfl HE.out
        | false =>
          rw [hsb] at c2
          clear hsb
          go_wp2_with fail
          clear hWE z0 z1 z2 z3 z4 z5 f0 f1 f2 f3 f4 f5
          obtain ⟨z0, z1, z2, z3, z4, z5⟩ := blk6 HZe.out
          refine bodyPost_ret (v := .tuple #[.agg #[.int .i64 0, .int .i64 0, .int .i64 0, .int .i64 0, .slice none 0 0, .slice none 0 0], .int .i64 5]) (by simp only [results, Try.results23]; go_simp) rfl HE.out
      | true =>
        have XE := hide (rer_yes op r9 D E1 dn dc an ac wr HRQ.out hdl hq hok)
        unfold RP.v at XE
        have HRv : Hid (R = if (!st9.2 && (encP (repU op).1 r9 == bs)) = true then some r9 else none) := hide (by rw [HR.out, hok]; simp)
        clear hok HR hdl hq
        go_wp2_with fail
        refine XE.out.mono ?_
        rintro e w7 ⟨A5, n5, c5, rfl, ho5, hb7⟩
        have HB7 := hide (below_more HBw.out (Nat.le_refl _) hb7)
        have HZ7 := hide (HZx.out.below hb7 HZx.out.lt)
        have c2 := (HP9.out.below hb7 HP9.out.lt).cell 2
        simp only [List.getElem?_toArray, List.getElem?_cons_succ, List.getElem?_cons_zero] at c2
        have t1 := run_string_of (P := Try.prog) w7 w7.heap.size 22 9 5 A5 n5 c5 (encP (repU op).1 r9) Try.underlying22 Try.underlying5 Try.underlying9 ho5.rd
        have t2 := run_string_of (P := Try.prog) w7 w7.heap.size 22 9 5 A n c bs Try.underlying22 Try.underlying5 Try.underlying9 (rdb HRA.out HB7.out)
        have HD7 := hide (HDK.out.d.keep (fun x hx hl => hb7.block x hl) hb7.size)
        have HA7 := hide (HDK.out.a.keep (fun x hx hl => hb7.block x hl) hb7.size)
        have k7 := HDK.out.k.below hb7 hgl
        unfold pcs at k7
        clear XE hb7 ho5 x0 x1 x2 x3 x4 x5 HBw HZx HDK
        obtain ⟨x0, x1, x2, x3, x4, x5⟩ := blk6 k7
        have hgl7 := HZ7.out.lt
        have hgk7 := k7.lt
        clear k7
        generalize encP (repU op).1 r9 = es at *
        cases hsb : st9.2 with
        | true =>
          rw [hsb] at c2 HRv
          have hRn : R = none := by rw [HRv.out]; simp
          clear hsb HRv
          obtain ⟨z0, z1, z2, z3, z4, z5⟩ := blk6 HZ7.out
          obtain ⟨f0, f1, f2, f3, f4, f5⟩ := fro6 HZ7.out
          have HE : Hid (RREnd 5 R w (.returned (.tuple #[zw, .int .i64 5])) ((((((w7.setCell ⟨w.heap.size, 0, none⟩ (.int .i64 0)).setCell ⟨w.heap.size, 1, none⟩ (.int .i64 0)).setCell ⟨w.heap.size, 2, none⟩ (.int .i64 0)).setCell ⟨w.heap.size, 3, none⟩ (.int .i64 0)).setCell ⟨w.heap.size, 4, none⟩ (.slice none 0 0)).setCell ⟨w.heap.size, 5, none⟩ (.slice none 0 0))) := hide (rr_none hRn (below6 HB7.out _ _ _ _ _ _))
          have HZe := hide (blk6s HZ7.out (.int .i64 0) (.int .i64 0) (.int .i64 0) (.int .i64 0) (.slice none 0 0) (.slice none 0 0))
          unfold zw at HE
          generalize hWE : ((((((w7.setCell ⟨w.heap.size, 0, none⟩ (.int .i64 0)).setCell ⟨w.heap.size, 1, none⟩ (.int .i64 0)).setCell ⟨w.heap.size, 2, none⟩ (.int .i64 0)).setCell ⟨w.heap.size, 3, none⟩ (.int .i64 0)).setCell ⟨w.heap.size, 4, none⟩ (.slice none 0 0)).setCell ⟨w.heap.size, 5, none⟩ (.slice none 0 0)) = WE at HE HZe
          clear hRn
          go_wp2_with fail
          clear hWE z0 z1 z2 z3 z4 z5 f0 f1 f2 f3 f4 f5
          obtain ⟨z0, z1, z2, z3, z4, z5⟩ := blk6 HZe.out
          refine bodyPost_ret (v := .tuple #[.agg #[.int .i64 0, .int .i64 0, .int .i64 0, .int .i64 0, .slice none 0 0, .slice none 0 0], .int .i64 5]) (by simp only [results, Try.results23]; go_simp) rfl HE.out
        | false =>
          rw [hsb] at c2 HRv
          clear hsb
          cases he : (es == bs) with
          | false =>
            have hne : (es != bs) = true := by simp [bne, he]
            have hRn : R = none := by rw [HRv.out, he]; simp
            clear HRv
            obtain ⟨z0, z1, z2, z3, z4, z5⟩ := blk6 HZ7.out
            obtain ⟨f0, f1, f2, f3, f4, f5⟩ := fro6 HZ7.out
            have HE : Hid (RREnd 5 R w (.returned (.tuple #[zw, .int .i64 5])) ((((((w7.setCell ⟨w.heap.size, 0, none⟩ (.int .i64 0)).setCell ⟨w.heap.size, 1, none⟩ (.int .i64 0)).setCell ⟨w.heap.size, 2, none⟩ (.int .i64 0)).setCell ⟨w.heap.size, 3, none⟩ (.int .i64 0)).setCell ⟨w.heap.size, 4, none⟩ (.slice none 0 0)).setCell ⟨w.heap.size, 5, none⟩ (.slice none 0 0))) := hide (rr_none hRn (below6 HB7.out _ _ _ _ _ _))
            have HZe := hide (blk6s HZ7.out (.int .i64 0) (.int .i64 0) (.int .i64 0) (.int .i64 0) (.slice none 0 0) (.slice none 0 0))
            unfold zw at HE
            generalize hWE : ((((((w7.setCell ⟨w.heap.size, 0, none⟩ (.int .i64 0)).setCell ⟨w.heap.size, 1, none⟩ (.int .i64 0)).setCell ⟨w.heap.size, 2, none⟩ (.int .i64 0)).setCell ⟨w.heap.size, 3, none⟩ (.int .i64 0)).setCell ⟨w.heap.size, 4, none⟩ (.slice none 0 0)).setCell ⟨w.heap.size, 5, none⟩ (.slice none 0 0)) = WE at HE HZe
            clear hRn
            go_wp2_with fail
            clear hWE z0 z1 z2 z3 z4 z5 f0 f1 f2 f3 f4 f5
            obtain ⟨z0, z1, z2, z3, z4, z5⟩ := blk6 HZe.out
            refine bodyPost_ret (v := .tuple #[.agg #[.int .i64 0, .int .i64 0, .int .i64 0, .int .i64 0, .slice none 0 0, .slice none 0 0], .int .i64 5]) (by simp only [results, Try.results23]; go_simp) rfl HE.out
          | true =>
            have hne : (es != bs) = false := by simp [bne, he]
            have hRs : R = some r9 := by rw [HRv.out, he]; simp
            clear HRv
            have HE : Hid (RREnd 5 R w (.returned (.tuple #[r9.v D E1 dn dc an ac, .int .i64 0])) ((((((w7.setCell ⟨w.heap.size, 0, none⟩ (.int .i64 r9.err)).setCell ⟨w.heap.size, 1, none⟩ (.int .i64 r9.h)).setCell ⟨w.heap.size, 2, none⟩ (.int .i64 r9.h2)).setCell ⟨w.heap.size, 3, none⟩ (.int .i64 r9.n)).setCell ⟨w.heap.size, 4, none⟩ (.slice D dn dc)).setCell ⟨w.heap.size, 5, none⟩ (.slice E1 an ac))) := hide (by
              rw [hRs]
              exact ⟨D, dn, dc, E1, an, ac, rfl, ⟨rd6 (fr_low6 HD7.out (by omega)) _ _ _ _ _ _, rd6 (fr_low6 HA7.out (by omega)) _ _ _ _ _ _⟩, below6 HB7.out _ _ _ _ _ _⟩)
            have HZe := hide (blk6s HZ7.out (.int .i64 r9.err) (.int .i64 r9.h) (.int .i64 r9.h2) (.int .i64 r9.n) (.slice D dn dc) (.slice E1 an ac))
            obtain ⟨z0, z1, z2, z3, z4, z5⟩ := blk6 HZ7.out
            obtain ⟨f0, f1, f2, f3, f4, f5⟩ := fro6 HZ7.out
            unfold RP.v at HE
            generalize hWE : ((((((w7.setCell ⟨w.heap.size, 0, none⟩ (.int .i64 r9.err)).setCell ⟨w.heap.size, 1, none⟩ (.int .i64 r9.h)).setCell ⟨w.heap.size, 2, none⟩ (.int .i64 r9.h2)).setCell ⟨w.heap.size, 3, none⟩ (.int .i64 r9.n)).setCell ⟨w.heap.size, 4, none⟩ (.slice D dn dc)).setCell ⟨w.heap.size, 5, none⟩ (.slice E1 an ac)) = WE at HE HZe
            clear hRs
            go_wp2_with fail
            clear hWE z0 z1 z2 z3 z4 z5 f0 f1 f2 f3 f4 f5 x0 x1 x2 x3 x4 x5
            obtain ⟨z0, z1, z2, z3, z4, z5⟩ := blk6 HZe.out
            refine bodyPost_ret (v := .tuple #[.agg #[.int .i64 r9.err, .int .i64 r9.h, .int .i64 r9.h2, .int .i64 r9.n, .slice D dn dc, .slice E1 an ac], .int .i64 0]) (by simp only [results, Try.results23]; go_simp) rfl HE.out
    · skip
      obtain ⟨r9, st9⟩ := Q9
      dsimp only at HR HLN
      have HBx := hide HKx.out.2.2.1
      obtain ⟨⟨IA, In, Ic, Iat, Ibs, n1, -⟩, ⟨D, dn, dc, E1, an, ac, hdk⟩, -, hgB, -⟩ := HKx.out
      have HP9 : Hid (Blk wr (w.heap.size + 1) 80 #[.slice IA In Ic, .int .i64 (Iat : Nat), .bool st9.2]) := hide n1
      have HDK : Hid (DrAt (w1.heap.size + 1) w1.heap.size r9 wr D E1 dn dc an ac) := hide hdk
      have k9 := HDK.out.k
      unfold pcs at k9
      have hgl := k9.lt
      clear hc0
      obtain ⟨x0, x1, x2, x3, x4, x5⟩ := blk6 k9
      have hce : r9.err = eI := by have h := HKE.out ([] : LB); rw [← HQ.out] at h; exact h
      have HZx : Hid (Blk wr w.heap.size 43 #[.int .i64 0, .int .i64 0, .int .i64 0, .int .i64 0, .slice none 0 0, .slice none 0 0]) := hide ((HBx.out.block w.heap.size (by omega)).trans (Blk.new w 43 #[.int .i64 0, .int .i64 0, .int .i64 0, .int .i64 0, .slice none 0 0, .slice none 0 0]))
      have HBw : Hid (Below w.heap.size w wr) := hide (((Below.refl w.heap.size w).alloc (Nat.le_refl _) (.cells #[.int .i64 0, .int .i64 0, .int .i64 0, .int .i64 0, .slice none 0 0, .slice none 0 0] 43)).trans (HBx.out.mono (by omega)))
      have HRQ : Hid (RdP wr r9 D E1 dn dc an ac) := hide ⟨HDK.out.d.1, HDK.out.a.1⟩
      have hln : an ≤ 100000 := by
        have e1 := rd_len HRQ.out.a
        have e4 := HLN.out
        omega
      have hdl : r9.d.length = dn := by have := HRQ.out.d.1; rw [bv_length] at this; omega
      have hz9 : (r9.err == 0) = false := by rw [hce]; exact hz
      clear n1 hdk k9 HQ HLC HF1 HKx hgB HLN HKE hce
      cases hok : r9.ok (repU op).1 with
      | false =>
        have XE := hide (rer_no op r9 D E1 dn dc an ac wr HRQ.out hdl hln (by rw [hok]; simp))
        unfold RP.v at XE
        have hRn : R = none := by rw [HR.out, hok]; simp
        clear hok HR hdl hq
        go_wp2_with fail
        refine XE.out.mono ?_
        rintro e w7 ⟨rfl, hb7⟩
        have HB7 := hide (below_more HBw.out (Nat.le_refl _) hb7)
        have HZ7 := hide (HZx.out.below hb7 HZx.out.lt)
        have c2 := (HP9.out.below hb7 HP9.out.lt).cell 2
        simp only [List.getElem?_toArray, List.getElem?_cons_succ, List.getElem?_cons_zero] at c2
        clear XE hb7 x0 x1 x2 x3 x4 x5 HBw HZx
        have hgl7 := HZ7.out.lt
        obtain ⟨z0, z1, z2, z3, z4, z5⟩ := blk6 HZ7.out
        obtain ⟨f0, f1, f2, f3, f4, f5⟩ := fro6 HZ7.out
        have HE : Hid (RREnd 5 R w (.returned (.tuple #[zw, .int .i64 5])) ((((((w7.setCell ⟨w.heap.size, 0, none⟩ (.int .i64 0)).setCell ⟨w.heap.size, 1, none⟩ (.int .i64 0)).setCell ⟨w.heap.size, 2, none⟩ (.int .i64 0)).setCell ⟨w.heap.size, 3, none⟩ (.int .i64 0)).setCell ⟨w.heap.size, 4, none⟩ (.slice none 0 0)).setCell ⟨w.heap.size, 5, none⟩ (.slice none 0 0))) := hide (rr_none hRn (below6 HB7.out _ _ _ _ _ _))
        have HZe := hide (blk6s HZ7.out (.int .i64 0) (.int .i64 0) (.int .i64 0) (.int .i64 0) (.slice none 0 0) (.slice none 0 0))
        unfold zw at HE
        generalize hWE : ((((((w7.setCell ⟨w.heap.size, 0, none⟩ (.int .i64 0)).setCell ⟨w.heap.size, 1, none⟩ (.int .i64 0)).setCell ⟨w.heap.size, 2, none⟩ (.int .i64 0)).setCell ⟨w.heap.size, 3, none⟩ (.int .i64 0)).setCell ⟨w.heap.size, 4, none⟩ (.slice none 0 0)).setCell ⟨w.heap.size, 5, none⟩ (.slice none 0 0)) = WE at HE HZe
        clear hRn
        cases hsb : st9.2 with
        | true =>
          rw [hsb] at c2
          clear hsb
          go_wp2_with fail
          clear hWE z0 z1 z2 z3 z4 z5 f0 f1 f2 f3 f4 f5
          obtain ⟨z0, z1, z2, z3, z4, z5⟩ := blk6 HZe.out
          refine bodyPost_ret (v := .tuple #[.agg #[.int .i64 0, .int .i64 0, .int .i64 0, .int .i64 0, .slice none 0 0, .slice none 0 0], .int .i64 5]) (by simp only [results, Try.results23]; go_simp) rfl HE.out
        | false =>
          rw [hsb] at c2
          clear hsb
          go_wp2_with fail
          clear hWE z0 z1 z2 z3 z4 z5 f0 f1 f2 f3 f4 f5
          obtain ⟨z0, z1, z2, z3, z4, z5⟩ := blk6 HZe.out
          refine bodyPost_ret (v := .tuple #[.agg #[.int .i64 0, .int .i64 0, .int .i64 0, .int .i64 0, .slice none 0 0, .slice none 0 0], .int .i64 5]) (by simp only [results, Try.results23]; go_simp) rfl HE.out
      | true =>
        have XE := hide (rer_yes op r9 D E1 dn dc an ac wr HRQ.out hdl hq hok)
        unfold RP.v at XE
        have HRv : Hid (R = if (!st9.2 && (encP (repU op).1 r9 == bs)) = true then some r9 else none) := hide (by rw [HR.out, hok]; simp)
        clear hok HR hdl hq
        go_wp2_with fail
        refine XE.out.mono ?_
        rintro e w7 ⟨A5, n5, c5, rfl, ho5, hb7⟩
        have HB7 := hide (below_more HBw.out (Nat.le_refl _) hb7)
        have HZ7 := hide (HZx.out.below hb7 HZx.out.lt)
        have c2 := (HP9.out.below hb7 HP9.out.lt).cell 2
        simp only [List.getElem?_toArray, List.getElem?_cons_succ, List.getElem?_cons_zero] at c2
        have t1 := run_string_of (P := Try.prog) w7 w7.heap.size 22 9 5 A5 n5 c5 (encP (repU op).1 r9) Try.underlying22 Try.underlying5 Try.underlying9 ho5.rd
        have t2 := run_string_of (P := Try.prog) w7 w7.heap.size 22 9 5 A n c bs Try.underlying22 Try.underlying5 Try.underlying9 (rdb HRA.out HB7.out)
        have HD7 := hide (HDK.out.d.keep (fun x hx hl => hb7.block x hl) hb7.size)
        have HA7 := hide (HDK.out.a.keep (fun x hx hl => hb7.block x hl) hb7.size)
        have k7 := HDK.out.k.below hb7 hgl
        unfold pcs at k7
        clear XE hb7 ho5 x0 x1 x2 x3 x4 x5 HBw HZx HDK
        obtain ⟨x0, x1, x2, x3, x4, x5⟩ := blk6 k7
        have hgl7 := HZ7.out.lt
        have hgk7 := k7.lt
        clear k7
        generalize encP (repU op).1 r9 = es at *
        cases hsb : st9.2 with
        | true =>
          rw [hsb] at c2 HRv
          have hRn : R = none := by rw [HRv.out]; simp
          clear hsb HRv
          obtain ⟨z0, z1, z2, z3, z4, z5⟩ := blk6 HZ7.out
          obtain ⟨f0, f1, f2, f3, f4, f5⟩ := fro6 HZ7.out
          have HE : Hid (RREnd 5 R w (.returned (.tuple #[zw, .int .i64 5])) ((((((w7.setCell ⟨w.heap.size, 0, none⟩ (.int .i64 0)).setCell ⟨w.heap.size, 1, none⟩ (.int .i64 0)).setCell ⟨w.heap.size, 2, none⟩ (.int .i64 0)).setCell ⟨w.heap.size, 3, none⟩ (.int .i64 0)).setCell ⟨w.heap.size, 4, none⟩ (.slice none 0 0)).setCell ⟨w.heap.size, 5, none⟩ (.slice none 0 0))) := hide (rr_none hRn (below6 HB7.out _ _ _ _ _ _))
          have HZe := hide (blk6s HZ7.out (.int .i64 0) (.int .i64 0) (.int .i64 0) (.int .i64 0) (.slice none 0 0) (.slice none 0 0))
          unfold zw at HE
          generalize hWE : ((((((w7.setCell ⟨w.heap.size, 0, none⟩ (.int .i64 0)).setCell ⟨w.heap.size, 1, none⟩ (.int .i64 0)).setCell ⟨w.heap.size, 2, none⟩ (.int .i64 0)).setCell ⟨w.heap.size, 3, none⟩ (.int .i64 0)).setCell ⟨w.heap.size, 4, none⟩ (.slice none 0 0)).setCell ⟨w.heap.size, 5, none⟩ (.slice none 0 0)) = WE at HE HZe
          clear hRn
          go_wp2_with fail
          clear hWE z0 z1 z2 z3 z4 z5 f0 f1 f2 f3 f4 f5
          obtain ⟨z0, z1, z2, z3, z4, z5⟩ := blk6 HZe.out
          refine bodyPost_ret (v := .tuple #[.agg #[.int .i64 0, .int .i64 0, .int .i64 0, .int .i64 0, .slice none 0 0, .slice none 0 0], .int .i64 5]) (by simp only [results, Try.results23]; go_simp) rfl HE.out
        | false =>
          rw [hsb] at c2 HRv
          clear hsb
          cases he : (es == bs) with
          | false =>
            have hne : (es != bs) = true := by simp [bne, he]
            have hRn : R = none := by rw [HRv.out, he]; simp
            clear HRv
            obtain ⟨z0, z1, z2, z3, z4, z5⟩ := blk6 HZ7.out
            obtain ⟨f0, f1, f2, f3, f4, f5⟩ := fro6 HZ7.out
            have HE : Hid (RREnd 5 R w (.returned (.tuple #[zw, .int .i64 5])) ((((((w7.setCell ⟨w.heap.size, 0, none⟩ (.int .i64 0)).setCell ⟨w.heap.size, 1, none⟩ (.int .i64 0)).setCell ⟨w.heap.size, 2, none⟩ (.int .i64 0)).setCell ⟨w.heap.size, 3, none⟩ (.int .i64 0)).setCell ⟨w.heap.size, 4, none⟩ (.slice none 0 0)).setCell ⟨w.heap.size, 5, none⟩ (.slice none 0 0))) := hide (rr_none hRn (below6 HB7.out _ _ _ _ _ _))
            have HZe := hide (blk6s HZ7.out (.int .i64 0) (.int .i64 0) (.int .i64 0) (.int .i64 0) (.slice none 0 0) (.slice none 0 0))
            unfold zw at HE
            generalize hWE : ((((((w7.setCell ⟨w.heap.size, 0, none⟩ (.int .i64 0)).setCell ⟨w.heap.size, 1, none⟩ (.int .i64 0)).setCell ⟨w.heap.size, 2, none⟩ (.int .i64 0)).setCell ⟨w.heap.size, 3, none⟩ (.int .i64 0)).setCell ⟨w.heap.size, 4, none⟩ (.slice none 0 0)).setCell ⟨w.heap.size, 5, none⟩ (.slice none 0 0)) = WE at HE HZe
            clear hRn
            go_wp2_with fail
            clear hWE z0 z1 z2 z3 z4 z5 f0 f1 f2 f3 f4 f5
            obtain ⟨z0, z1, z2, z3, z4, z5⟩ := blk6 HZe.out
            refine bodyPost_ret (v := .tuple #[.agg #[.int .i64 0, .int .i64 0, .int .i64 0, .int .i64 0, .slice none 0 0, .slice none 0 0], .int .i64 5]) (by simp only [results, Try.results23]; go_simp) rfl HE.out
          | true =>
            have hne : (es != bs) = false := by simp [bne, he]
            have hRs : R = some r9 := by rw [HRv.out, he]; simp
            clear HRv
            have HE : Hid (RREnd 5 R w (.returned (.tuple #[r9.v D E1 dn dc an ac, .int .i64 0])) ((((((w7.setCell ⟨w.heap.size, 0, none⟩ (.int .i64 r9.err)).setCell ⟨w.heap.size, 1, none⟩ (.int .i64 r9.h)).setCell ⟨w.heap.size, 2, none⟩ (.int .i64 r9.h2)).setCell ⟨w.heap.size, 3, none⟩ (.int .i64 r9.n)).setCell ⟨w.heap.size, 4, none⟩ (.slice D dn dc)).setCell ⟨w.heap.size, 5, none⟩ (.slice E1 an ac))) := hide (by
              rw [hRs]
              exact ⟨D, dn, dc, E1, an, ac, rfl, ⟨rd6 (fr_low6 HD7.out (by omega)) _ _ _ _ _ _, rd6 (fr_low6 HA7.out (by omega)) _ _ _ _ _ _⟩, below6 HB7.out _ _ _ _ _ _⟩)
            have HZe := hide (blk6s HZ7.out (.int .i64 r9.err) (.int .i64 r9.h) (.int .i64 r9.h2) (.int .i64 r9.n) (.slice D dn dc) (.slice E1 an ac))
            obtain ⟨z0, z1, z2, z3, z4, z5⟩ := blk6 HZ7.out
            obtain ⟨f0, f1, f2, f3, f4, f5⟩ := fro6 HZ7.out
            unfold RP.v at HE
            generalize hWE : ((((((w7.setCell ⟨w.heap.size, 0, none⟩ (.int .i64 r9.err)).setCell ⟨w.heap.size, 1, none⟩ (.int .i64 r9.h)).setCell ⟨w.heap.size, 2, none⟩ (.int .i64 r9.h2)).setCell ⟨w.heap.size, 3, none⟩ (.int .i64 r9.n)).setCell ⟨w.heap.size, 4, none⟩ (.slice D dn dc)).setCell ⟨w.heap.size, 5, none⟩ (.slice E1 an ac)) = WE at HE HZe
            clear hRs
            go_wp2_with fail
            clear hWE z0 z1 z2 z3 z4 z5 f0 f1 f2 f3 f4 f5 x0 x1 x2 x3 x4 x5
            obtain ⟨z0, z1, z2, z3, z4, z5⟩ := blk6 HZe.out
            refine bodyPost_ret (v := .tuple #[.agg #[.int .i64 r9.err, .int .i64 r9.h, .int .i64 r9.h2, .int .i64 r9.n, .slice D dn dc, .slice E1 an ac], .int .i64 0]) (by simp only [results, Try.results23]; go_simp) rfl HE.out
theorem rdr_in (op : Int) (bs : LB) (A : Option Addr) (n c : Nat) (w : World) (hr : Rd w A n bs) (hn : n ≤ 100000) (hc : n ≤ c) (o1 : 1 ≤ op) (o2 : op ≤ 16) : Calls Try.prog 23 #[.int .i64 op, .slice A n c] w fun e w' => RREnd 5 (decR (repU op) bs) w e w' := by
  cases hz : (((numS 1 (bs, false)).1 : Int) == 0) with
  | true => exact rdr_zero op bs A n c w hr hn hc o1 o2 hz
  | false => exact rdr_err op bs A n c w hr hn hc o1 o2 hz
theorem rdr_any (op : Int) (bs : LB) (A : Option Addr) (n c : Nat) (w : World) (hr : Rd w A n bs) (hn : n ≤ 100000) (hc : n ≤ c) : Calls Try.prog 23 #[.int .i64 op, .slice A n c] w fun e w' => RREnd (if (repU op).2 = true then 5 else 2) (decR (repU op) bs) w e w' := by
  by_cases ho : 1 ≤ op ∧ op ≤ 16
  · rw [if_pos (rep_in ho.1 ho.2).2]
    exact rdr_in op bs A n c w hr hn hc ho.1 ho.2
  · rw [if_neg (by rw [rep_out ho]; decide)]
    exact rdr_unk op A n c bs w ho
end Go.Proofs.Ytedacfjkbfgikaa
namespace Go.Proofs.Ytedacfjkbfgikaa
open Go.RowKit
set_option linter.unusedVariables false
def repE (op : Int) (r : RP) : LB := if ((repU op).2 && r.ok (repU op).1) = true then encP (repU op).1 r else []
def repK (op : Int) (r : RP) : Int := if ((repU op).2 && r.ok (repU op).1) = true then 0 else 2
theorem er_both (op : Int) (r : RP) (D1 A1 : Option Addr) (dn1 dc1 an1 ac1 : Nat) (w : World) (h : RdP w r D1 A1 dn1 dc1 an1 ac1) (ho : i64ok op) (hn : dn1 ≤ 5000 ∧ an1 ≤ 300) :
    Calls Try.prog 20 #[.int .i64 op, .agg #[.int .i64 r.err, .int .i64 r.h, .int .i64 r.h2, .int .i64 r.n, .slice D1 dn1 dc1, .slice A1 an1 ac1]] w fun e w' => ∃ A' n' c', e = .returned (.tuple #[.slice A' n' c', .int .i64 (repK op r)]) ∧ Rd w' A' n' (repE op r) ∧ Below w.heap.size w w' := by
  have hdl : r.d.length = dn1 := by have := h.d.1; rw [bv_length] at this; omega
  unfold repE repK
  cases hok : ((repU op).2 && r.ok (repU op).1) with
  | true =>
    rw [Bool.and_eq_true] at hok
    exact (er_yes op r D1 A1 dn1 dc1 an1 ac1 w h.d h.a ho (by omega) hok.1 hok.2).mono fun e w' ⟨A', n', c', h1, h2, h3⟩ => ⟨A', n', c', h1, h2.rd, h3⟩
  | false => exact (er_no op r D1 A1 dn1 dc1 an1 ac1 w h.a hdl ho (by omega) hok).mono fun e w' ⟨h1, h2⟩ => ⟨none, 0, 0, h1, Reads.none_, h2⟩
theorem rer_both (op : Int) (r : RP) (D1 A1 : Option Addr) (dn1 dc1 an1 ac1 : Nat) (w : World) (h : RdP w r D1 A1 dn1 dc1 an1 ac1) (hn : an1 ≤ 300) :
    Calls Try.prog 21 #[.int .i64 op, .agg #[.int .i64 r.err, .int .i64 r.h, .int .i64 r.h2, .int .i64 r.n, .slice D1 dn1 dc1, .slice A1 an1 ac1]] w fun e w' => ∃ A' n' c', e = .returned (.tuple #[.slice A' n' c', .int .i64 (repK op r)]) ∧ Rd w' A' n' (repE op r) ∧ Below w.heap.size w w' := by
  have hdl : r.d.length = dn1 := by have := h.d.1; rw [bv_length] at this; omega
  unfold repE repK
  cases hok : ((repU op).2 && r.ok (repU op).1) with
  | true =>
    rw [Bool.and_eq_true] at hok
    exact (rer_yes op r D1 A1 dn1 dc1 an1 ac1 w h hdl hok.1 hok.2).mono fun e w' ⟨A', n', c', h1, h2, h3⟩ => ⟨A', n', c', h1, h2.rd, h3⟩
  | false => exact (rer_no op r D1 A1 dn1 dc1 an1 ac1 w h hdl (by omega) hok).mono fun e w' ⟨h1, h2⟩ => ⟨none, 0, 0, h1, Reads.none_, h2⟩
theorem dr_both (op : Int) (bs : LB) (s : RP) (hs : (decR (repU op) bs).getD (zP 0) = s) (k : Int) (hk : (if (decR (repU op) bs).isSome then (0 : Int) else (if (repU op).2 = true then 5 else 2)) = k) (A : Option Addr) (n c : Nat) (w : World) (ho : i64ok op) (hr : Rd w A n bs) (hn : n ≤ 100000) (hc : n ≤ c) : Calls Try.prog 22 #[.int .i64 op, .slice A n c] w fun e w' => ∃ D2 dn2 dc2 A2 an2 ac2, e = .returned (.tuple #[.agg #[.int .i64 s.err, .int .i64 s.h, .int .i64 s.h2, .int .i64 s.n, .slice D2 dn2 dc2, .slice A2 an2 ac2], .int .i64 k]) ∧ RdP w' s D2 A2 dn2 dc2 an2 ac2 ∧ Below w.heap.size w w' :=
  (dr_any op bs A n c w ho hr hn hc).mono fun e w' h => by
    obtain ⟨D, dn, dc, B, bn, bc, h1, h2, h3, h6⟩ := h
    rw [hs] at h1 h2 h3
    rw [hk] at h1
    exact ⟨D, dn, dc, B, bn, bc, h1, ⟨Reads.of_own h2, Reads.of_own h3⟩, h6⟩
theorem rdr_both (op : Int) (bs : LB) (s : RP) (hs : (decR (repU op) bs).getD (zP 0) = s) (k : Int) (hk : (if (decR (repU op) bs).isSome then (0 : Int) else (if (repU op).2 = true then 5 else 2)) = k) (A : Option Addr) (n c : Nat) (w : World) (hr : Rd w A n bs) (hn : n ≤ 100000) (hc : n ≤ c) : Calls Try.prog 23 #[.int .i64 op, .slice A n c] w fun e w' => ∃ D3 dn3 dc3 A3 an3 ac3, e = .returned (.tuple #[.agg #[.int .i64 s.err, .int .i64 s.h, .int .i64 s.h2, .int .i64 s.n, .slice D3 dn3 dc3, .slice A3 an3 ac3], .int .i64 k]) ∧ RdP w' s D3 A3 dn3 dc3 an3 ac3 ∧ Below w.heap.size w w' :=
  (rdr_any op bs A n c w hr hn hc).mono fun e w' h => by
    obtain ⟨D, dn, dc, B, bn, bc, h1, h2, h6⟩ := h
    rw [hs] at h1 h2
    rw [hk] at h1
    exact ⟨D, dn, dc, B, bn, bc, h1, h2, h6⟩
theorem decr_len {op : Int} {bs : LB} {s : RP} (hs : (decR (repU op) bs).getD (zP 0) = s) : s.names.length ≤ 255 := by
  cases hd : decR (repU op) bs with
  | none => rw [hd] at hs; subst hs; simp [zP]
  | some q =>
    rw [hd] at hs
    obtain rfl : q = s := hs
    have h := rok_small (decP_enc hd).2.1
    exact h.2.2.2.2.1.1
set_option maxRecDepth 100000 in
set_option maxHeartbeats 16000000 in
theorem replies_law (op : Int) (r : RP) (D1 A1 : Option Addr) (dn1 dc1 an1 ac1 : Nat) (B : Option Addr) (m k : Nat) (bs : LB) (w : World) (hop : i64ok op) (h : RdP w r D1 A1 dn1 dc1 an1 ac1) (hB : Rd w B m bs) (hmk : m ≤ k) :
    Calls Try.prog 4 #[.int .i64 op, r.v D1 A1 dn1 dc1 an1 ac1, .slice B m k] w fun e w' => e = .returned (.bool true) ∧ Below w.heap.size w w' := by
  have hb := (Below.refl w.heap.size w).alloc (Nat.le_refl _) (.cells #[.int .i64 r.err, .int .i64 r.h, .int .i64 r.h2, .int .i64 r.n, .slice D1 dn1 dc1, .slice A1 an1 ac1] 43)
  have HB := hide hb
  have HK := hide (Blk.new w 43 #[.int .i64 r.err, .int .i64 r.h, .int .i64 r.h2, .int .i64 r.n, .slice D1 dn1 dc1, .slice A1 an1 ac1])
  have HR := hide (h.below hb)
  have HX := hide (rdb hB hb)
  have hl := HK.out.lt
  have XS := hide (few_any r D1 A1 dn1 dc1 an1 ac1 _ HR.out.a)
  have HO := hide hop
  clear h hB hb hop
  unfold RP.v at XS ⊢
  obtain ⟨x0, x1, x2, x3, x4, x5⟩ := blk6 HK.out
  go_enter Try.func4, Try.ntmps4
  go_wp2_with fail
  refine XS.out.mono ?_
  rintro e w1 ⟨s, rfl, hs, hb⟩
  have HS := hide hs
  replace HB := hide (below_more HB.out (Nat.le_refl _) hb)
  replace HK := hide (HK.out.below hb hl)
  replace HR := hide (HR.out.below hb)
  replace HX := hide (rdb HX.out hb)
  clear hs hb XS x0 x1 x2 x3 x4 x5 hl
  cases s with
  | false =>
    go_wp2_with fail
    refine (heads_any _).mono ?_
    rintro e w2 ⟨rfl, hb⟩
    replace HB := hide (below_more HB.out (Nat.le_refl _) hb)
    clear hb
    go_wp2_with fail
    go_ret
    exact ⟨rfl, HB.out⟩
  | true =>
    have HN := hide (HS.out rfl)
    clear HS
    by_cases hm : (6000 : Int) < (m : Int)
    · go_wp2_with fail
      refine (heads_any _).mono ?_
      rintro e w2 ⟨rfl, hb⟩
      replace HB := hide (below_more HB.out (Nat.le_refl _) hb)
      clear hb
      go_wp2_with fail
      go_ret
      exact ⟨rfl, HB.out⟩
    · have hl := HK.out.lt
      obtain ⟨x0, x1, x2, x3, x4, x5⟩ := blk6 HK.out
      have XE := hide (er_both op r D1 A1 dn1 dc1 an1 ac1 w1 HR.out HO.out HN.out)
      have XE2 := hide (fun W h => rer_both op r D1 A1 dn1 dc1 an1 ac1 W h HN.out.2)
      generalize repE op r = xs at *
      generalize repK op r = ke at *
      go_wp2_with fail
      refine XE.out.mono ?_
      rintro e w2 ⟨A5, n5, c5, rfl, hR5, hb⟩
      have H5 := hide hR5
      replace HB := hide (below_more HB.out (Nat.le_refl _) hb)
      replace HK := hide (HK.out.below hb hl)
      replace HR := hide (HR.out.below hb)
      replace HX := hide (rdb HX.out hb)
      clear hb hR5 XE x0 x1 x2 x3 x4 x5 hl
      have hl := HK.out.lt
      obtain ⟨x0, x1, x2, x3, x4, x5⟩ := blk6 HK.out
      have XE3 := hide (XE2.out w2 HR.out)
      clear XE2
      go_wp2_with fail
      refine XE3.out.mono ?_
      rintro e w3 ⟨A6, n6, c6, rfl, hR6, hb⟩
      have H6 := hide hR6
      replace H5 := hide (rdb H5.out hb)
      replace HB := hide (below_more HB.out (Nat.le_refl _) hb)
      replace HX := hide (rdb HX.out hb)
      clear hb hR6 XE3 x0 x1 x2 x3 x4 x5 hl HK HR
      obtain ⟨s, hs⟩ : ∃ s, (decR (repU op) bs).getD (zP 0) = s := ⟨_, rfl⟩
      obtain ⟨kd, hkd⟩ : ∃ kd : Int, (if (decR (repU op) bs).isSome then (0 : Int) else (if (repU op).2 = true then 5 else 2)) = kd := ⟨_, rfl⟩
      have HSL := hide (decr_len hs)
      have XD := hide (dr_both op bs s hs kd hkd B m k w3 HO.out HX.out (by omega) hmk)
      have XD2 := hide (fun W h => rdr_both op bs s hs kd hkd B m k W h (by omega) hmk)
      clear hs hkd
      go_wp2_with fail
      refine XD.out.mono ?_
      rintro e w4 ⟨D2, dn2, dc2, A2, an2, ac2, rfl, hR2, hb⟩
      have ba := (Below.refl w4.heap.size w4).alloc (Nat.le_refl _) (.cells #[.int .i64 s.err, .int .i64 s.h, .int .i64 s.h2, .int .i64 s.n, .slice D2 dn2 dc2, .slice A2 an2 ac2] 43)
      have hb2 := below_more hb (Nat.le_refl _) ba
      have HR2 := hide (hR2.below ba)
      have HK2 := hide (Blk.new w4 43 #[.int .i64 s.err, .int .i64 s.h, .int .i64 s.h2, .int .i64 s.n, .slice D2 dn2 dc2, .slice A2 an2 ac2])
      replace H5 := hide (rdb H5.out hb2)
      replace H6 := hide (rdb H6.out hb2)
      replace HB := hide (below_more HB.out (Nat.le_refl _) hb2)
      replace HX := hide (rdb HX.out hb2)
      have XD3 := hide (XD2.out _ HX.out)
      clear hb hb2 ba hR2 XD XD2
      go_wp2_with fail
      refine XD3.out.mono ?_
      rintro e w5 ⟨D3, dn3, dc3, A3, an3, ac3, rfl, hR3, hb⟩
      have ba := (Below.refl w5.heap.size w5).alloc (Nat.le_refl _) (.cells #[.int .i64 s.err, .int .i64 s.h, .int .i64 s.h2, .int .i64 s.n, .slice D3 dn3 dc3, .slice A3 an3 ac3] 43)
      have hb2 := below_more hb (Nat.le_refl _) ba
      have HR3 := hide (hR3.below ba)
      have HK3 := hide (Blk.new w5 43 #[.int .i64 s.err, .int .i64 s.h, .int .i64 s.h2, .int .i64 s.n, .slice D3 dn3 dc3, .slice A3 an3 ac3])
      replace H5 := hide (rdb H5.out hb2)
      replace H6 := hide (rdb H6.out hb2)
      replace HB := hide (below_more HB.out (Nat.le_refl _) hb2)
      replace HR2 := hide (HR2.out.below hb2)
      have hl4 := HK2.out.lt
      replace HK2 := hide (HK2.out.below hb2 hl4)
      clear hb hb2 ba hR3 XD3 HX hl4
      go_upto_region 7 with (fail)
      generalize w5.alloc (.cells #[.int .i64 s.err, .int .i64 s.h, .int .i64 s.h2, .int .i64 s.n, .slice D3 dn3 dc3, .slice A3 an3 ac3] 43) = W at *
      have hg2 := HK2.out.lt
      have hg3 := HK3.out.lt
      have HBW := hide HB.out.size
      have allS : Hid (∀ V, Below W.heap.size W V → (V.cell? ⟨w4.heap.size, 0, none⟩ = some (.int .i64 s.err) ∧ V.cell? ⟨w4.heap.size, 1, none⟩ = some (.int .i64 s.h) ∧ V.cell? ⟨w4.heap.size, 2, none⟩ = some (.int .i64 s.h2) ∧ V.cell? ⟨w4.heap.size, 3, none⟩ = some (.int .i64 s.n) ∧ V.cell? ⟨w4.heap.size, 4, none⟩ = some (.slice D2 dn2 dc2) ∧ V.cell? ⟨w4.heap.size, 5, none⟩ = some (.slice A2 an2 ac2)) ∧ (V.cell? ⟨w5.heap.size, 0, none⟩ = some (.int .i64 s.err) ∧ V.cell? ⟨w5.heap.size, 1, none⟩ = some (.int .i64 s.h) ∧ V.cell? ⟨w5.heap.size, 2, none⟩ = some (.int .i64 s.h2) ∧ V.cell? ⟨w5.heap.size, 3, none⟩ = some (.int .i64 s.n) ∧ V.cell? ⟨w5.heap.size, 4, none⟩ = some (.slice D3 dn3 dc3) ∧ V.cell? ⟨w5.heap.size, 5, none⟩ = some (.slice A3 an3 ac3))) := hide (fun V hV => ⟨blk6 (HK2.out.below hV hg2), blk6 (HK3.out.below hV hg3)⟩)
      have X13 : Hid (∀ V, Below W.heap.size W V → Calls Try.prog 13 #[.slice A5 n5 c5, .slice A6 n6 c6] V fun e w' => e = .returned (.bool true) ∧ V = w') := hide (fun V hV => by
        have h := same_any A5 A6 n5 n6 c5 c6 xs xs V _ _ (rdb H5.out hV) (rdb H6.out hV)
        rwa [show (xs == xs) = true by simp] at h)
      have X14 : Hid (∀ V, Below W.heap.size W V → Calls Try.prog 24 #[.agg #[.int .i64 s.err, .int .i64 s.h, .int .i64 s.h2, .int .i64 s.n, .slice D2 dn2 dc2, .slice A2 an2 ac2], .agg #[.int .i64 s.err, .int .i64 s.h, .int .i64 s.h2, .int .i64 s.n, .slice D3 dn3 dc3, .slice A3 an3 ac3]] V fun e w' => e = .returned (.bool true) ∧ Below V.heap.size V w') := hide (fun V hV => repsV s D3 A3 D2 A2 dn3 dc3 an3 ac3 dn2 dc2 an2 ac2 V (HR3.out.below hV) (HR2.out.below hV) (by
        have e1 := rd_len HR3.out.a
        have e4 := HSL.out
        omega))
      have X8 := hide (fun V => heads_any V)
      have kW := hide (Below.refl W.heap.size W)
      clear HR2 HR3 H5 H6 HO HN HSL
      obtain ⟨⟨y0, y1, y2, y3, y4, y5⟩, z0, z1, z2, z3, z4, z5⟩ := allS.out _ kW.out
      go_wp2_with fail
      refine (X13.out _ kW.out).mono ?_
      rintro e wx ⟨rfl, rfl⟩
      go_wp2_with fail
      refine (X14.out _ kW.out).mono ?_
      rintro e wx ⟨rfl, kx⟩
      replace kW := hide (below_more kW.out (Nat.le_refl _) kx)
      clear kx
      go_wp2_with fail
      refine (X8.out _).mono ?_
      rintro e wy ⟨rfl, kx⟩
      replace kW := hide (below_more kW.out (Nat.le_refl _) kx)
      clear kx
      go_wp2_with fail
      go_ret
      exact ⟨by first | rfl | simp, HB.out.trans (kW.out.mono HBW.out)⟩
end Go.Proofs.Ytedacfjkbfgikaa
namespace Go.Proofs.Ytedacfjkbfgikaa
open Go.ChangeShapes Go.WideShapes Go.ChangeAt Go.RowKit
open Go.ChangeMaps (open_string shut_string)
set_option linter.unusedVariables false

theorem i64R_of {x : Int} (h : (Lit.int .i64 x).wf = true) : -9223372036854775808 ≤ x ∧ x ≤ 9223372036854775807 := by
  have e1 : IntKind.i64.min = -9223372036854775808 := rfl
  have e2 : IntKind.i64.max = 9223372036854775807 := rfl
  simp only [Lit.wf, e1, e2, Bool.and_eq_true, decide_eq_true_eq] at h
  exact h
theorem u64_of {x : Int} (h : (Lit.int .u64 x).wf = true) : ∃ n : Nat, x = n ∧ n < 18446744073709551616 := by
  have e1 : IntKind.u64.min = 0 := rfl
  have e2 : IntKind.u64.max = 18446744073709551615 := rfl
  simp only [Lit.wf, e1, e2, Bool.and_eq_true, decide_eq_true_eq] at h
  exact ⟨x.toNat, by omega, by omega⟩
theorem own : ownKnob Try.prog.godebug = none := by kernel_rfl
theorem laidOut : laidOutB Try.prog = true := by kernel_rfl

/-- A slice of bytes that came in. -/
theorem rd_of_ints {W : World} {a : Addr} {len : Nat} {zs : List Int} (hl : len ≤ zs.length) (hc : ∀ i, i < zs.length → W.cell? (a.add i) = some (.int .u8 (zs.getD i 0))) (hw : ∀ n ∈ zs, (Lit.int .u8 n).wf = true) :
    Rd W (some a) len ((zs.take len).map fun z => UInt8.ofNat z.toNat) := by
  refine ⟨by simp [bv]; omega, fun hn => ⟨a, rfl, ?_, ?_⟩⟩
  · have := World.block_lt_of_cell? W _ (hc 0 (by omega))
    rwa [block_of_add] at this
  · intro j u hj
    have hjl : j < len := by
      rcases Nat.lt_or_ge j len with h | h
      · exact h
      · rw [List.getElem?_eq_none (by simp [bv]; omega)] at hj; cases hj
    have hwj := hw (zs.getD j 0) (by rw [List.getD_eq_getElem?_getD, List.getElem?_eq_getElem (by omega)]; exact List.getElem_mem _)
    rw [hc j (by omega), ← hj]
    have hz : 0 ≤ zs.getD j 0 ∧ zs.getD j 0 ≤ 255 := by
      have e1 : IntKind.u8.min = 0 := rfl
      have e2 : IntKind.u8.max = 255 := rfl
      simp only [Lit.wf, e1, e2, Bool.and_eq_true, decide_eq_true_eq] at hwj
      exact hwj
    have hg : zs[j]? = some (zs.getD j 0) := by rw [List.getD_eq_getElem?_getD, List.getElem?_eq_getElem (by omega)]; rfl
    generalize zs.getD j 0 = z at *
    simp only [bv, List.map_map, List.getElem?_map, List.getElem?_take, hjl, if_true, hg, Option.map_some, Function.comp]
    congr 2
    simp
    omega
theorem bytes_of_trod {H : Type} {enc : TypeId × Value → H} {W : World} {base : Nat} {spare : Nat → Bool} {held : Bool} {t e : TypeId} {fuel : Nat} {v : Value} {x : DataW H × List MemPlace}
    (ht : Try.prog.underlying t = some (.slice e)) (he : Try.prog.underlying e = some (.int .u8)) (hc : Try.prog.cellsOf e = 1)
    (hf : DataW.trod enc Try.prog W base spare held fuel t [v] = some x) : ∃ A n c bs, v = .slice A n c ∧ Rd W A n bs ∧ n ≤ c ∧ c ≤ maxLen := by
  rcases open_ints ht he hc hf with ⟨hcs, _⟩ | ⟨y, l, cc, zs, hcs, _, hl, hm, hz, _, hcell, hwz⟩
  · injection hcs with hcs
    exact ⟨none, 0, 0, [], hcs, Reads.none_, Nat.le_refl _, Nat.zero_le _⟩
  · injection hcs with hcs
    refine ⟨_, _, _, _, hcs, rd_of_ints (zs := zs) ?_ hcell hwz, hl, hm⟩
    rw [hz]
    split <;> omega
theorem bytes_of {H : Type} {enc : TypeId × Value → H} {W : World} {base : Nat} {spare : Nat → Bool} {held : Bool} {t e : TypeId} {A : Option Addr} {n c : Nat} {d : DataW H} {p : List MemPlace}
    (ht : Try.prog.underlying t = some (.slice e)) (he : Try.prog.underlying e = some (.int .u8)) (hc : Try.prog.cellsOf e = 1)
    (h : DataW.Trod enc Try.prog W base spare held t (.slice A n c) d p) : ∃ bs, Rd W A n bs ∧ n ≤ c ∧ c ≤ maxLen := by
  obtain ⟨fuel, hf⟩ := h
  simp only [Value.cells] at hf
  obtain ⟨A', n', c', bs, hv, h1, h2, h3⟩ := bytes_of_trod ht he hc hf
  injection hv with e1 e2 e3
  subst e1; subst e2; subst e3
  exact ⟨bs, h1, h2, h3⟩
end Go.Proofs.Ytedacfjkbfgikaa
namespace Go.Proofs.Ytedacfjkbfgikaa
open Go.ChangeShapes Go.WideShapes Go.ChangeAt Go.RowKit
open Go.Deep (open_strs)
set_option linter.unusedVariables false
theorem cStr : Try.prog.cellsOf 9 = 1 := by kernel_rfl
theorem rd_of_strs {W : World} {a : Addr} {len m : Nat} {Sx : Nat → ByteArray} (hl : len ≤ m) (hc : ∀ i, i < m → W.cell? (a.add i) = some (.string (Sx i)) ∧ (Sx i).size ≤ maxLen) :
    Reads W W.heap.size 1 (some a) len (svs ((List.range len).map fun i => (Sx i).data.toList)) ∧ ∀ k ∈ (List.range len).map (fun i => (Sx i).data.toList), k.length ≤ maxLen := by
  refine ⟨⟨by simp [svs], fun hn => ⟨a, rfl, ?_, ?_⟩⟩, ?_⟩
  · have := World.block_lt_of_cell? W _ (hc 0 (by omega)).1
    rwa [block_of_add] at this
  · intro j u hj
    have hjl : j < len := by
      rcases Nat.lt_or_ge j len with h | h
      · exact h
      · rw [List.getElem?_eq_none (by simp [svs]; omega)] at hj; cases hj
    rw [(hc j (by omega)).1, ← hj]
    simp [svs, sv, hjl]
  · intro k hk
    simp only [List.mem_map, List.mem_range] at hk
    obtain ⟨i, hi, rfl⟩ := hk
    have := (hc i (by omega)).2
    rw [Array.length_toList]
    exact this
set_option maxRecDepth 100000 in
theorem strs_of {H : Type} {enc : TypeId × Value → H} {W : World} {base base' : Nat} {spare : Nat → Bool} {held : Bool} {v : Value} {d : DataW H} {p : List MemPlace}
    (hv : Value.okWide Try.prog W .any base' 23 v) (h : DataW.Trod enc Try.prog W base spare held 23 v d p) :
    ∃ A n c ks, v = .slice A n c ∧ Reads W W.heap.size 1 A n (svs ks) ∧ n ≤ c ∧ c ≤ maxLen ∧ (∀ k ∈ ks, k.length ≤ maxLen) := by
  obtain ⟨A, n, c, rfl⟩ := okWide_slice Try.underlying23 hv
  obtain ⟨fuel, hf⟩ := h
  rcases open_strs Try.underlying23 Try.underlying9 cStr hf with ⟨hcs, _⟩ | ⟨x, l, cc, m, Sx, hcs, _, hl, hm, hmm, hd, hcell⟩
  · simp [Value.cells] at hcs
    obtain ⟨rfl, rfl, rfl⟩ := hcs
    exact ⟨none, 0, 0, [], rfl, Reads.none_, Nat.le_refl _, Nat.zero_le _, (fun x h => by cases h)⟩
  · simp [Value.cells] at hcs
    obtain ⟨rfl, rfl, rfl⟩ := hcs
    have hlm : n ≤ m := by rw [hmm]; split <;> omega
    obtain ⟨h1, h2⟩ := rd_of_strs (W := W) hlm hcell
    exact ⟨some x, n, c, _, rfl, h1, hl, hm, h2⟩
theorem cInt : Try.prog.cellsOf 3 = 1 := by kernel_rfl
set_option maxRecDepth 100000 in
theorem ints_of {H : Type} {enc : TypeId × Value → H} {W : World} {base base' : Nat} {spare : Nat → Bool} {held : Bool} {v : Value} {d : DataW H} {p : List MemPlace}
    (hv : Value.okWide Try.prog W .any base' 24 v) (h : DataW.Trod enc Try.prog W base spare held 24 v d p) :
    ∃ A n c zs, v = .slice A n c ∧ Reads W W.heap.size 1 A n (List.map (fun z => Value.int .i64 z) zs) ∧ n ≤ c ∧ c ≤ maxLen ∧ (∀ z ∈ zs, (Lit.int .i64 z).wf = true) := by
  obtain ⟨A, n, c, rfl⟩ := okWide_slice Try.underlying24 hv
  obtain ⟨fuel, hf⟩ := h
  rcases open_ints Try.underlying24 Try.underlying3 cInt hf with ⟨hcs, _⟩ | ⟨x, l, cc, zs, hcs, _, hl, hm, hz, hd, hcell, hwz⟩
  · simp [Value.cells] at hcs
    obtain ⟨rfl, rfl, rfl⟩ := hcs
    exact ⟨none, 0, 0, [], rfl, Reads.none_, Nat.le_refl _, Nat.zero_le _, (fun x h => by cases h)⟩
  · simp [Value.cells] at hcs
    obtain ⟨rfl, rfl, rfl⟩ := hcs
    have hlz : n ≤ zs.length := by rw [hz]; split <;> omega
    refine ⟨some x, n, c, zs.take n, rfl, ⟨by simp; omega, fun hn => ⟨x, rfl, ?_, ?_⟩⟩, hl, hm, fun z h => hwz z (List.mem_of_mem_take h)⟩
    · have := World.block_lt_of_cell? W _ (hcell 0 (by omega))
      rwa [block_of_add] at this
    · intro j u hj
      have hjl : j < n := by
        rcases Nat.lt_or_ge j n with h | h
        · exact h
        · rw [List.getElem?_eq_none (by simp; omega)] at hj; cases hj
      have hg : zs[j]? = some (zs.getD j 0) := by rw [List.getD_eq_getElem?_getD, List.getElem?_eq_getElem (by omega)]; rfl
      rw [hcell j (by omega), ← hj]
      rw [List.getElem?_map, List.getElem?_take, if_pos hjl, hg]; rfl
end Go.Proofs.Ytedacfjkbfgikaa
namespace Go.Proofs.Ytedacfjkbfgikaa
open Go.ChangeShapes Go.WideShapes Go.ChangeAt Go.RowKit
open Go.Deep (open_strs)
set_option linter.unusedVariables false
theorem strs_of_trod {H : Type} {enc : TypeId × Value → H} {W : World} {base : Nat} {spare : Nat → Bool} {held : Bool} {fuel : Nat} {v : Value} {x : DataW H × List MemPlace}
    (hf : DataW.trod enc Try.prog W base spare held fuel 23 [v] = some x) : ∃ A n c ks, v = .slice A n c ∧ Reads W W.heap.size 1 A n (svs ks) ∧ n ≤ c ∧ c ≤ maxLen := by
  rcases open_strs Try.underlying23 Try.underlying9 cStr hf with ⟨hcs, _⟩ | ⟨y, l, cc, m, Sx, hcs, _, hl, hm, hmm, hd, hcell⟩
  · injection hcs with hcs
    exact ⟨none, 0, 0, [], hcs, Reads.none_, Nat.le_refl _, Nat.zero_le _⟩
  · injection hcs with hcs
    have hlm : l ≤ m := by rw [hmm]; split <;> omega
    obtain ⟨h1, h2⟩ := rd_of_strs (W := W) hlm hcell
    exact ⟨some y, l, cc, _, hcs, h1, hl, hm⟩
theorem ints_of_trod {H : Type} {enc : TypeId × Value → H} {W : World} {base : Nat} {spare : Nat → Bool} {held : Bool} {fuel : Nat} {v : Value} {x : DataW H × List MemPlace}
    (hf : DataW.trod enc Try.prog W base spare held fuel 24 [v] = some x) : ∃ A n c zs, v = .slice A n c ∧ Reads W W.heap.size 1 A n (ivs zs) ∧ n ≤ c ∧ c ≤ maxLen := by
  rcases open_ints Try.underlying24 Try.underlying3 cInt hf with ⟨hcs, _⟩ | ⟨y, l, cc, zs, hcs, _, hl, hm, hz, hd, hcell, hwz⟩
  · injection hcs with hcs
    exact ⟨none, 0, 0, [], hcs, Reads.none_, Nat.le_refl _, Nat.zero_le _⟩
  · injection hcs with hcs
    have hlz : l ≤ zs.length := by rw [hz]; split <;> omega
    refine ⟨some y, l, cc, zs.take l, hcs, ⟨by simp [ivs]; omega, fun hn => ⟨y, rfl, ?_, ?_⟩⟩, hl, hm⟩
    · have := World.block_lt_of_cell? W _ (hcell 0 (by omega))
      rwa [block_of_add] at this
    · intro j u hj
      have hjl : j < l := by
        rcases Nat.lt_or_ge j l with h | h
        · exact h
        · rw [List.getElem?_eq_none (by simp [ivs]; omega)] at hj; cases hj
      have hg : zs[j]? = some (zs.getD j 0) := by rw [List.getD_eq_getElem?_getD, List.getElem?_eq_getElem (by omega)]; rfl
      rw [hcell j (by omega), ← hj]
      unfold ivs
      rw [List.getElem?_map, List.getElem?_take, if_pos hjl, hg]; rfl
set_option maxRecDepth 100000 in
theorem req_of {H : Type} {enc : TypeId × Value → H} {W : World} {base : Nat} {sp : Nat → Bool} {held : Bool} {v : Value} {d : DataW H} {p : List MemPlace}
    (hval : Value.okWide Try.prog W .any base 26 v) (h : DataW.Trod enc Try.prog W 0 sp held 26 v d p) :
    ∃ (r : RQ) (D A E F : Option Addr) (dn dc an ac en ec fn fc : Nat), v = r.v D A E F dn dc an ac en ec fn fc ∧ RdQ W r D A E F dn dc an ac en ec fn fc ∧ i64ok r.op := by
  obtain ⟨cells, rfl, hsize⟩ := okWide_struct Try.underlying26 hval
  have h5 : cells.size = 10 := hsize.trans (by kernel_rfl)
  obtain ⟨fuel, hf⟩ := h
  obtain ⟨xs, m, _, _, _, hxs, hat⟩ := DataW.trod_struct Try.underlying26 hf
  match cells, h5 with
  | ⟨[v0, v1, v2, v3, v4, v5, v6, v7, v8, v9]⟩, _ =>
    match xs, hxs with
    | [y0, y1, y2, y3, y4, y5, y6, y7, y8, y9], _ =>
      have f0 := hat 0 _ rfl
      have f1 := hat 1 _ rfl
      have f2 := hat 2 _ rfl
      have f3 := hat 3 _ rfl
      have f4 := hat 4 _ rfl
      have f5 := hat 5 _ rfl
      have f6 := hat 6 _ rfl
      have f7 := hat 7 _ rfl
      have f8 := hat 8 _ rfl
      have f9 := hat 9 _ rfl
      have k1 : Try.prog.cellsOf 22 = 1 := by kernel_rfl
      have k2 : Try.prog.cellsOf 3 = 1 := by kernel_rfl
      have k3 : Try.prog.cellsOf 23 = 1 := by kernel_rfl
      have k4 : Try.prog.cellsOf 24 = 1 := by kernel_rfl
      simp [Value.cells, k1, k2, k3, k4, cStr] at f0 f1 f2 f3 f4 f5 f6 f7 f8 f9
      obtain ⟨o, e0, _, wo⟩ := DataW.trod_int Try.underlying3 f0
      obtain ⟨s, e1, _, ws⟩ := DataW.trod_string Try.underlying9 f1
      obtain ⟨s2, e2, _, ws2⟩ := DataW.trod_string Try.underlying9 f2
      obtain ⟨hh, e3, _, wh⟩ := DataW.trod_int Try.underlying3 f3
      obtain ⟨n, e4, _, wn⟩ := DataW.trod_int Try.underlying3 f4
      obtain ⟨fl, e5, _, wf⟩ := DataW.trod_int Try.underlying3 f5
      injection e0 with e0
      injection e1 with e1
      injection e2 with e2
      injection e3 with e3
      injection e4 with e4
      injection e5 with e5
      subst e0; subst e1; subst e2; subst e3; subst e4; subst e5
      obtain ⟨D, dn, dc, dg, rfl, hr, hl, hm⟩ := bytes_of_trod Try.underlying22 Try.underlying5 (by kernel_rfl) f6
      obtain ⟨A, an, ac, ks, rfl, hr2, hl2, hm2⟩ := strs_of_trod f7
      obtain ⟨E, en, ec, ks2, rfl, hr3, hl3, hm3⟩ := strs_of_trod f8
      obtain ⟨F, fn, fc, zs, rfl, hr4, hl4, hm4⟩ := ints_of_trod f9
      exact ⟨⟨o, s.data.toList, s2.data.toList, hh, n, fl, dg, ks, ks2, zs⟩, D, A, E, F, dn, dc, an, ac, en, ec, fn, fc, rfl, ⟨hr, hr2, hr3, hr4⟩, i64R_of wo⟩
set_option maxRecDepth 100000 in
theorem rep_of {H : Type} {enc : TypeId × Value → H} {W : World} {base : Nat} {sp : Nat → Bool} {held : Bool} {v : Value} {d : DataW H} {p : List MemPlace}
    (hval : Value.okWide Try.prog W .any base 43 v) (h : DataW.Trod enc Try.prog W 0 sp held 43 v d p) :
    ∃ (r : RP) (D A : Option Addr) (dn dc an ac : Nat), v = r.v D A dn dc an ac ∧ Rd W D dn r.d ∧ Reads W W.heap.size 1 A an (svs r.names) ∧ i64ok r.err := by
  obtain ⟨cells, rfl, hsize⟩ := okWide_struct Try.underlying43 hval
  have h5 : cells.size = 6 := hsize.trans (by kernel_rfl)
  obtain ⟨fuel, hf⟩ := h
  obtain ⟨xs, m, _, _, _, hxs, hat⟩ := DataW.trod_struct Try.underlying43 hf
  match cells, h5 with
  | ⟨[v0, v1, v2, v3, v4, v5]⟩, _ =>
    match xs, hxs with
    | [y0, y1, y2, y3, y4, y5], _ =>
      have f0 := hat 0 _ rfl
      have f1 := hat 1 _ rfl
      have f2 := hat 2 _ rfl
      have f3 := hat 3 _ rfl
      have f4 := hat 4 _ rfl
      have f5 := hat 5 _ rfl
      have k1 : Try.prog.cellsOf 22 = 1 := by kernel_rfl
      have k2 : Try.prog.cellsOf 3 = 1 := by kernel_rfl
      have k3 : Try.prog.cellsOf 23 = 1 := by kernel_rfl
      have k4 : Try.prog.cellsOf 29 = 1 := by kernel_rfl
      simp [Value.cells, k1, k2, k3, k4] at f0 f1 f2 f3 f4 f5
      obtain ⟨o, e0, _, wo⟩ := DataW.trod_int Try.underlying29 f0
      obtain ⟨hh, e1, _, wh⟩ := DataW.trod_int Try.underlying3 f1
      obtain ⟨h2, e2, _, wh2⟩ := DataW.trod_int Try.underlying3 f2
      obtain ⟨n, e3, _, wn⟩ := DataW.trod_int Try.underlying3 f3
      injection e0 with e0
      injection e1 with e1
      injection e2 with e2
      injection e3 with e3
      subst e0; subst e1; subst e2; subst e3
      obtain ⟨D, dn, dc, dg, rfl, hr, hl, hm⟩ := bytes_of_trod Try.underlying22 Try.underlying5 (by kernel_rfl) f4
      obtain ⟨A, an, ac, ks, rfl, hr2, hl2, hm2⟩ := strs_of_trod f5
      exact ⟨⟨o, hh, h2, n, dg, ks⟩, D, A, dn, dc, an, ac, rfl, hr, hr2, i64R_of wo⟩
end Go.Proofs.Ytedacfjkbfgikaa
namespace Go.Proofs.Ytedacfjkbfgikaa
open Go.ChangeShapes Go.WideShapes Go.ChangeAt Go.RowKit
open Go.ChangeMaps (open_string shut_string)
set_option linter.unusedVariables false

set_option maxRecDepth 100000 in
theorem protoReplies_lifted (os : Os) (started : os.Started) (H : Type) (enc : TypeId × Value → H) :
    ReturnsInHanded {} Try.checked os 4 .any (Rows.protoRepliesSpec.pre6 enc Try.prog Try.f4 Rows.protoRepliesRow.domain false) (Rows.protoRepliesSpec.post enc Try.prog Try.f4 false true false false) := by
  refine returnsInHanded_of_change (C := Try.checked) own started (by kernel_rfl) Try.func4
    (ChangeSpec.witness6 (enc := enc) (C := Try.checked) false ⟨#[], #[.int .i64 0, .agg #[.int .i64 0, .int .i64 0, .int .i64 0, .int .i64 0, .slice none 0 0, .slice none 0 0], .slice none 0 0], []⟩ 8 (by kernel_rfl) (by kernel_rfl) (by kernel_rfl) (by kernel_rfl)) ?_
  intro W base args ds gs before hval0 hW hcnd hsz0
  have hval : ∀ (j : Nat) t v, Try.f4.params[j]? = some t → args[j]? = some v → Value.okWide Try.prog W .any base t v := hval0
  have hW' := hW
  obtain ⟨p, q, hA0, hV, rfl, hfz, hnd⟩ := hW
  have hA : DataW.TrodAll enc Try.prog W 0 (fun _ => true) true Try.f4.params.toList args.toList ds p := hA0
  rw [Try.params4] at hA hval
  obtain ⟨v0, vs0, d0, ds0, p0, q0, hargs, rfl, rfl, h0, r0⟩ := trodAll_cons hA
  obtain ⟨v1, vs1, d1, ds1, p1, q1, rfl, rfl, rfl, h1, r1⟩ := trodAll_cons r0
  obtain ⟨v2, vs2, d2, ds2, p2, q2, rfl, rfl, rfl, h2, r2⟩ := trodAll_cons r1
  obtain ⟨rfl, rfl, rfl⟩ := trodAll_nil r2
  obtain rfl : args = #[v0, v1, v2] := by cases args; simp_all
  obtain ⟨rfl, rfl⟩ := trodVars_none hV
  obtain ⟨a0, rfl, rfl, rfl, w0⟩ := open_int Try.underlying3 (hval 0 3 v0 rfl rfl) h0
  have k1 := h1
  have lt1 : ∀ x ∈ p1, x.block < W.heap.size := by obtain ⟨m, hm⟩ := k1; exact DataW.trod_lt m _ _ _ hm
  obtain ⟨R1, D1, A1, dn1, dc1, an1, ac1, rfl, w1, x1, o1⟩ := rep_of (hval 1 43 v1 rfl rfl) h1
  obtain ⟨A2, n2, c2, rfl⟩ := okWide_slice Try.underlying22 (hval 2 22 v2 rfl rfl)
  have k2 := h2
  have lt2 : ∀ x ∈ p2, x.block < W.heap.size := by obtain ⟨m, hm⟩ := k2; exact DataW.trod_lt m _ _ _ hm
  obtain ⟨b2, w2, l2, m2⟩ := bytes_of Try.underlying22 Try.underlying5 (by kernel_rfl) h2
  clear hA0 hval0
  refine (replies_law a0 R1 D1 A1 dn1 dc1 an1 ac1 A2 n2 c2 b2 W (i64R_of w0) ⟨w1, x1⟩ w2 l2).mono fun e W' ⟨he, bel⟩ => ?_
  subst he
  exact ⟨_, rfl, _, _, _, [], _, [], hW', trodAll_mk1 (shut_bool Try.underlying4 _), (trodAll_cons_mk (shut_int Try.underlying3 w0) (trodAll_cons_mk (Below.trod laidOut (by kernel_rfl) (of_decide_eq_true (by kernel_rfl)) k1 bel lt1) (trodAll_cons_mk (Below.trod laidOut (by kernel_rfl) (of_decide_eq_true (by kernel_rfl)) k2 bel lt2) trodAll_mk0))), rfl, bel.frame _, fun h => by cases h⟩

theorem protoReplies_over : Rows.ProtoRepliesSaid :=
  OpenClaim.holds_of_wide 4 Try.f4 rfl rfl rfl rfl rfl rfl rfl ⟨rfl, rfl, rfl, rfl, rfl⟩ rfl rfl rfl rfl rfl (by kernel_rfl) Try.func4 (by kernel_rfl)
    (of_decide_eq_true (by kernel_rfl)) (by unfold Func.isWrapper; first | (rw [if_pos (by decide +kernel)]; kernel_rfl) | (rw [if_neg (by decide +kernel)]; exact ⟨rfl, rfl⟩))
    (fun os started H enc _ => protoReplies_lifted os started H enc)
#print axioms protoReplies_over
end Go.Proofs.Ytedacfjkbfgikaa
