/- The contract of the law's heads. -/
import Derived.Test.YtmejcmdnjfjphaaDoorNumW
import Derived.Test.YtmejcmdnjfjphaaDoorWrapW
import Derived.Test.YtmejcmdnjfjphaaDoorUnhexW
import Derived.Test.YtmejcmdnjfjphaaDoorRParseW
namespace Go.Proofs.YtmejcmdnjfjphaaDoor
open Go.RowKit
set_option linter.unusedVariables false

theorem parse_is (s : ByteArray) (w : World) (hs : s.size ≤ 1000000) (h : Std w) (v : Int) (hv : i64R v) (e : Lib.itoa v = s.data.toList) :
    Calls Tryd.prog 14 #[.string s] w fun e w' => e = .returned (.tuple #[.int .i64 v, .bool true]) ∧ Below w.heap.size w w' := by
  refine (parse_any s w hs h).mono fun e' w' ⟨hb, hh⟩ => ⟨?_, hb⟩
  rcases hh with ⟨u, hu, he, rfl⟩ | ⟨hno, _⟩
  · rw [itoa_inj hu hv (he.trans e.symm)]
  · exact absurd e (hno v hv)
theorem parse_not (s : ByteArray) (w : World) (hs : s.size ≤ 1000000) (h : Std w) (hno : ∀ v, i64R v → Lib.itoa v ≠ s.data.toList) :
    Calls Tryd.prog 14 #[.string s] w fun e w' => e = .returned (.tuple #[.int .i64 0, .bool false]) ∧ Below w.heap.size w w' := by
  refine (parse_any s w hs h).mono fun e' w' ⟨hb, hh⟩ => ⟨?_, hb⟩
  rcases hh with ⟨u, hu, he, _⟩ | ⟨_, rfl⟩
  · exact absurd he (hno u hu)
  · rfl
theorem unhex_is (s : ByteArray) (w : World) (hs : s.size ≤ 1000000) (h2 : s.size % 2 = 0) (bs : List UInt8) (e : unhexS s.data.toList = some bs) :
    Calls Tryd.prog 16 #[.string s] w fun e w' => ∃ A n c, e = .returned (.tuple #[.slice A n c, .bool true]) ∧ Rd w' A n bs ∧ Below w.heap.size w w' := by
  refine (unhex_even s w h2 hs).mono fun e' w' hh => ?_
  rcases hh with ⟨h, _⟩ | ⟨b, A, n, c, h, he, hr, hb⟩
  · rw [e] at h; cases h
  · rw [e] at h
    injection h with h
    subst h
    exact ⟨A, n, c, he, hr, hb⟩
theorem rd_two (w : World) (a b : UInt8) : Rd (w.alloc (.cells #[.int .u8 (a.toNat : Int), .int .u8 (b.toNat : Int)] 5)) (some ⟨w.heap.size, 0, none⟩) 2 [a, b] := by
  have := Blk.own (base := 0) (cap := 2) (Blk.new w 5 #[.int .u8 (a.toNat : Int), .int .u8 (b.toNat : Int)]) (by omega) (by unfold maxLen; omega) rfl
  exact Reads.of_own this
theorem own_slice {w : World} {base : Nat} {t : TypeId} {size n : Nat} {v : Value} {xs : List Value} (h : w.ownsRow base t size v n xs) : ∃ A c, v = .slice A n c := by
  rcases h.2 with ⟨rfl, rfl⟩ | ⟨g, cap, cur, rfl, _⟩
  · exact ⟨none, 0, rfl⟩
  · exact ⟨_, _, rfl⟩
theorem put_sl (n : Nat) (m : Nat) (w : World) (h1 : 1 ≤ m) (h2 : m ≤ 8) (hn : n < 18446744073709551616) :
    Calls Tryd.prog 11 #[.int .u64 n, .int .i64 m] w fun e w' => ∃ A c, e = .returned (.slice A m c) ∧ Rd w' A m (be m n) ∧ Below w.heap.size w w' := by
  refine (put_yes n m w h1 h2 hn).mono fun e w' ⟨v, he, hown, hb⟩ => ?_
  obtain ⟨A, c, rfl⟩ := own_slice hown
  exact ⟨A, c, he, Reads.of_own hown, hb⟩
theorem rput_sl (n : Nat) (m : Nat) (w : World) (h1 : 1 ≤ m) (h2 : m ≤ 8) (hn : n < 18446744073709551616) :
    Calls Tryd.prog 12 #[.int .u64 n, .int .i64 m] w fun e w' => ∃ A c, e = .returned (.slice A m c) ∧ Rd w' A m (be m n) ∧ Below w.heap.size w w' := by
  refine (rput_yes n m w h1 h2 hn).mono fun e w' ⟨v, he, hown, hb⟩ => ?_
  obtain ⟨A, c, rfl⟩ := own_slice hown
  exact ⟨A, c, he, Reads.of_own hown, hb⟩
theorem itoa_m12 : Lib.itoa (-12) = [45, 49, 50] := by
  simp [Lib.itoa, dec_big, dec_small]
theorem no_01 : ∀ v, i64R v → Lib.itoa v ≠ [48, 49] := by
  intro v hv he
  have h1 := atoi_itoa v hv
  rw [he] at h1
  have h2 : Lib.atoiAll [48, 49] = .ok 1 := by decide
  rw [h2] at h1
  injection h1 with h1
  subst h1
  revert he
  simp [Lib.itoa, dec_small]

set_option maxHeartbeats 1000000 in
theorem heads_any (w : World) (hS : Std w) :
    Calls Tryd.prog 13 #[] w fun e w' => e = .returned (.bool true) ∧ Below w.heap.size w w' := by
  have hb0 := hide ((Below.refl w.heap.size w).alloc (Nat.le_refl _) (.cells #[.int .u8 1, .int .u8 2] 5))
  have c1 := get_yes (some ⟨w.heap.size, 0, none⟩) 2 2 [1, 2] _ (by omega) (by omega) (rd_two w 1 2)
  rw [show ((numB [1, 2] : Nat) : Int) = 258 from rfl] at c1
  have C1 := hide c1
  clear c1
  go_enter Tryd.func13, Tryd.ntmps13
  go_wp2_with fail
  refine C1.out.mono ?_
  rintro e w1 ⟨rfl, rfl⟩
  clear C1
  go_wp2_with fail
  refine (get_no none 0 0 _ (by omega)).mono ?_
  rintro e w1 ⟨rfl, rfl⟩
  go_wp2_with fail
  refine (parse_is ⟨#[45, 49, 50]⟩ _ (by decide) (hS.below hb0.out) (-12) (by unfold i64R; omega) itoa_m12).mono ?_
  rintro e w2 ⟨rfl, hb2⟩
  have HB2 := hide (hb0.out.trans (hb2.mono hb0.out.size))
  clear hb2
  go_wp2_with fail
  refine (parse_not ⟨#[48, 49]⟩ _ (by decide) (hS.below HB2.out) no_01).mono ?_
  rintro e w3 ⟨rfl, hb3⟩
  have HB3 := hide (HB2.out.trans (hb3.mono HB2.out.size))
  clear hb3
  go_wp2_with fail
  refine (unhex_is ⟨#[48, 97, 102, 102]⟩ _ (by decide) (by decide) [10, 255] (by decide)).mono ?_
  rintro e w4 ⟨A, n, c, rfl, hrA, hb4⟩
  have HB4 := hide (HB3.out.trans (hb4.mono HB3.out.size))
  clear hb4
  go_wp2_with fail
  refine (put_sl 258 2 _ (by omega) (by omega) (by omega)).mono ?_
  rintro e w5 ⟨A5, c5, rfl, hr5, hb5⟩
  have HB5 := hide (HB4.out.trans (hb5.mono HB4.out.size))
  have K5 := hide hb5
  have HrA := hide hrA
  clear hb5 hrA
  go_wp2_with fail
  have c6 := same_any A5 (some ⟨w5.heap.size, 0, none⟩) 2 2 c5 2 (be 2 258) [1, 2] (w5.alloc (.cells #[.int .u8 1, .int .u8 2] 5)) w5.heap.size _ (hr5.alloc (Nat.le_refl _) _) (rd_two w5 1 2)
  rw [show (be 2 258 == [1, 2]) = true from rfl] at c6
  refine c6.mono ?_
  rintro e w6 ⟨rfl, rfl⟩
  clear c6
  have HB6 := hide (HB5.out.alloc HB5.out.size (.cells #[.int .u8 1, .int .u8 2] 5))
  go_wp2_with fail
  refine (dec_any (-12) _ (by unfold i64R; omega) (hS.below HB6.out)).mono ?_
  rintro e w7 ⟨rfl, hb7⟩
  rw [itoa_m12]
  have HB7 := hide (HB6.out.trans (hb7.mono HB6.out.size))
  have K7 := hide ((K5.out.alloc K5.out.size (.cells #[.int .u8 1, .int .u8 2] 5)).trans (hb7.mono (K5.out.alloc K5.out.size _).size))
  clear hb7
  go_wp2_with fail
  have c8 := hex_any (some ⟨w7.heap.size, 0, none⟩) 2 2 [10, 255] _ (rd_two w7 10 255) (by omega)
  rw [show hexL [10, 255] = [48, 97, 102, 102] from rfl] at c8
  refine c8.mono ?_
  rintro e w8 ⟨rfl, hb8⟩
  clear c8
  have HB8 := hide ((HB7.out.alloc HB7.out.size (.cells #[.int .u8 10, .int .u8 255] 5)).trans (hb8.mono (by have := HB7.out.size; simp; omega)))
  have K8 := hide ((K7.out.alloc K7.out.size (.cells #[.int .u8 10, .int .u8 255] 5)).trans (hb8.mono (K7.out.alloc K7.out.size _).size))
  clear hb8
  have HrB := hide (HrA.out.below K8.out)
  go_wp2_with fail
  have c9 := same_any A (some ⟨w8.heap.size, 0, none⟩) n 2 c 2 [10, 255] [10, 255] (w8.alloc (.cells #[.int .u8 10, .int .u8 255] 5)) w4.heap.size _ (HrB.out.alloc K8.out.size _) (rd_two w8 10 255)
  rw [show (([10, 255] : List UInt8) == [10, 255]) = true from rfl] at c9
  refine c9.mono ?_
  rintro e w9 ⟨rfl, rfl⟩
  clear c9
  have HB9 := hide (HB8.out.alloc HB8.out.size (.cells #[.int .u8 10, .int .u8 255] 5))
  go_wp2_with fail
  have c10 := wrap_yes 200 8 (w8.alloc (.cells #[.int .u8 10, .int .u8 255] 5)) (by omega) (by omega) (by omega) (by omega)
  rw [show (200 : Int).bmod (2 ^ (8 : Int).toNat) = -56 from rfl] at c10
  refine c10.mono ?_
  rintro e w10 ⟨rfl, rfl⟩
  clear c10
  go_wp2
  go_ret
  exact ⟨rfl, HB9.out⟩
end Go.Proofs.YtmejcmdnjfjphaaDoor
