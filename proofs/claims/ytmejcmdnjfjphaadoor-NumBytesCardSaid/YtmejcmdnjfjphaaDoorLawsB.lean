/- The walks of NumBytes, NumWords and NumBack. -/
import Derived.Test.YtmejcmdnjfjphaaDoorComb
namespace Go.Proofs.YtmejcmdnjfjphaaDoor
open Go.RowKit
set_option linter.unusedVariables false

theorem below_more {B : Nat} {a b c : World} (h : Below B a b) (hB : B ≤ a.heap.size) (k : Below b.heap.size b c) : Below B a c := h.trans (k.mono (Nat.le_trans hB h.size))

set_option maxHeartbeats 400000 in
theorem bytes_law (n : Nat) (m : Int) (A : Option Addr) (k c : Nat) (bs : List UInt8) (w : World) (hS : Std w) (hn : n < 18446744073709551616) (hr : Rd w A k bs) :
    Calls Tryd.prog 3 #[.int .u64 n, .int .i64 m, .slice A k c] w fun e w' => e = .returned (.bool true) ∧ Below w.heap.size w w' := by
  go_enter Tryd.func3, Tryd.ntmps3
  go_wp2_with fail
  refine (get_c A k c bs _ hr).mono ?_
  rintro e w1 ⟨rfl, rfl⟩
  go_wp2_with fail
  refine (rget_c A k c bs _ hr).mono ?_
  rintro e w1 ⟨rfl, rfl⟩
  go_wp2_with fail
  refine (put_c n m _ hn).mono ?_
  rintro e w1 ⟨A1, k1, c1, rfl, hr1, hb1⟩
  go_wp2_with fail
  refine (rput_c n m _ hn).mono ?_
  rintro e w2 ⟨A2, k2, c2, rfl, hr2, hb2⟩
  have hr1' := hr1.below hb2
  have hb3 := below_more hb1 (Nat.le_refl _) hb2
  go_wp2_with fail
  refine (same_any A1 A2 k1 k2 c1 c2 _ _ w2 _ _ hr1' hr2).mono ?_
  rintro e w3 ⟨rfl, rfl⟩
  rw [show (putL n m == putL n m) = true from by simp]
  generalize getX bs = x
  generalize getE bs = y
  have t1 : ((x : Int) == (x : Int)) = true := by simp
  have t2 : (y == y) = true := by simp
  go_wp2_with fail
  refine (heads_any w2 (hS.below hb3)).mono ?_
  rintro e w4 ⟨rfl, hb4⟩
  go_wp2
  go_ret
  exact ⟨rfl, below_more hb3 (Nat.le_refl _) hb4⟩

set_option maxHeartbeats 400000 in
theorem words_law (n : Int) (s : ByteArray) (A : Option Addr) (k c : Nat) (bs : List UInt8) (w : World) (hS : Std w) (hn : i64R n) (hr : Rd w A k bs) (hk : k ≤ maxLen) (hs : s.size ≤ maxLen) :
    Calls Tryd.prog 4 #[.int .i64 n, .string s, .slice A k c] w fun e w' => e = .returned (.bool true) ∧ Below w.heap.size w w' := by
  unfold maxLen at hk hs
  by_cases hbig : 1000 < s.size ∨ 500 < k
  · rcases hbig with hb | hb
    · go_enter Tryd.func4, Tryd.ntmps4
      go_wp2_with fail
      refine (heads_any w hS).mono ?_
      rintro e w1 ⟨rfl, hb⟩
      go_wp2
      go_ret
      exact ⟨rfl, hb⟩
    · by_cases hb2 : 1000 < s.size
      · go_enter Tryd.func4, Tryd.ntmps4
        go_wp2_with fail
        refine (heads_any w hS).mono ?_
        rintro e w1 ⟨rfl, hb⟩
        go_wp2
        go_ret
        exact ⟨rfl, hb⟩
      · go_enter Tryd.func4, Tryd.ntmps4
        go_wp2_with fail
        refine (heads_any w hS).mono ?_
        rintro e w1 ⟨rfl, hb⟩
        go_wp2
        go_ret
        exact ⟨rfl, hb⟩
  · have hs1 : s.size ≤ 1000 := by omega
    have hk1 : k ≤ 500 := by omega
    clear hbig
    go_enter Tryd.func4, Tryd.ntmps4
    go_wp2_with fail
    refine (parse_c s w (by omega) hS).mono ?_
    rintro e w1 ⟨rfl, hb1⟩
    have B1 := hide hb1
    clear hb1
    go_wp2_with fail
    refine (rparse_c s w1 (by omega)).mono ?_
    rintro e w2 ⟨rfl, hb2⟩
    have B2 := hide (below_more B1.out (Nat.le_refl _) hb2)
    clear hb2
    go_wp2_with fail
    refine (unhex_c s w2 (by omega)).mono ?_
    rintro e w3 ⟨A3, n3, c3, rfl, hr3, hb3⟩
    have B3 := hide (below_more B2.out (Nat.le_refl _) hb3)
    clear hb3
    go_wp2_with fail
    refine (runhex_c s w3 (by omega)).mono ?_
    rintro e w4 ⟨A4, n4, c4, rfl, hr4, hb4⟩
    have B4 := hide (below_more B3.out (Nat.le_refl _) hb4)
    have R3 := hide (hr3.below hb4)
    have K4 := hide hb4
    clear hb4
    go_wp2_with fail
    refine (dec_any n w4 hn (hS.below B4.out)).mono ?_
    rintro e w5 ⟨rfl, hb5⟩
    have B5 := hide (below_more B4.out (Nat.le_refl _) hb5)
    have R4 := hide (hr4.below hb5)
    have R3' := hide (R3.out.below (hb5.mono K4.out.size))
    clear R3
    go_wp2_with fail
    refine (rdec_any n w5 hn).mono ?_
    rintro e w6 ⟨rfl, rfl⟩
    generalize Lib.itoa n = ln
    generalize pX s.data.toList = px
    generalize pB s.data.toList = pb
    generalize uB s.data.toList = ub
    have t1 : (ln == ln) = true := by simp
    have t2 : (px == px) = true := by simp
    have t3 : (pb == pb) = true := by simp
    have t4 : (ub == ub) = true := by simp
    go_wp2_with fail
    refine (hex_any A k c bs w5 ((hr.below B5.out).more B5.out.size) (by omega)).mono ?_
    rintro e w7 ⟨rfl, hb7⟩
    have B7 := hide (below_more B5.out (Nat.le_refl _) hb7)
    go_wp2_with fail
    refine (rhex_any A k c bs w7 ((hr.below B7.out).more B7.out.size) (by omega)).mono ?_
    rintro e w8 ⟨rfl, hb8⟩
    have B8 := hide (below_more B7.out (Nat.le_refl _) hb8)
    have R4' := hide ((R4.out.below (hb7.mono hb5.size)).below (hb8.mono (Nat.le_trans hb5.size hb7.size)))
    have R3b := hide ((R3'.out.below (hb7.mono (Nat.le_trans K4.out.size hb5.size))).below (hb8.mono (Nat.le_trans K4.out.size (Nat.le_trans hb5.size hb7.size))))
    generalize hexL bs = lh
    have t5 : (lh == lh) = true := by simp
    clear hb7 hb8 hb5
    go_wp2_with fail
    refine (same_any A3 A4 n3 n4 c3 c4 _ _ w8 _ _ R3b.out R4'.out).mono ?_
    rintro e w9 ⟨rfl, rfl⟩
    rw [show (uX s.data.toList == uX s.data.toList) = true from by simp]
    go_wp2_with fail
    refine (heads_any w8 (hS.below B8.out)).mono ?_
    rintro e w10 ⟨rfl, hb10⟩
    go_wp2
    go_ret
    exact ⟨rfl, below_more B8.out (Nat.le_refl _) hb10⟩

theorem put_E (n : Nat) (m : Int) (h1 : 1 ≤ m) (h8 : m ≤ 8) : getE (putL n m) = 0 := by
  have e : putL n m = be m.toNat n := if_pos ⟨h1, h8⟩
  unfold getE
  rw [e, if_pos (by rw [be_length]; omega)]
theorem put_X (n : Nat) (m : Int) (h1 : 1 ≤ m) (h8 : m ≤ 8) : getX (putL n m) = n % 256 ^ m.toNat := by
  have e : putL n m = be m.toNat n := if_pos ⟨h1, h8⟩
  unfold getX
  rw [e, if_pos (by rw [be_length]; omega), be_num]
theorem size_mk (l : List UInt8) : (⟨l.toArray⟩ : ByteArray).size = l.length := by simp [ByteArray.size]
theorem mask_X (n : Nat) (m : Int) (h1 : 1 ≤ m) (h7 : m ≤ 7) (hn : n < 18446744073709551616) :
    bits .and .u64 (n : Int) (IntKind.u64.wrap (IntKind.u64.wrap (2 ^ (8 * m).toNat) - 1)) = ((n % 256 ^ m.toNat : Nat) : Int) := by
  obtain ⟨k, rfl⟩ := Int.eq_ofNat_of_zero_le (show 0 ≤ m by omega)
  have e : (2 : Nat) ^ (8 * k) = 256 ^ k := by rw [Nat.pow_mul]
  have hb : 256 ^ k ≤ 256 ^ 7 := Nat.pow_le_pow_right (by omega) (by omega)
  have hp : 0 < 256 ^ k := Nat.pow_pos (by omega)
  rw [show (8 * (k : Int)).toNat = 8 * k from by omega, show ((k : Int)).toNat = k from by omega]
  rw [u64_pow (8 * k) (by omega), pow_cast, e]
  have : ((256 ^ k : Nat) : Int) - 1 = ((256 ^ k - 1 : Nat) : Int) := by omega
  rw [this, IntWalk.u64_in _ (by omega), u64_and_nat _ _ hn (by omega), ← e, Nat.and_two_pow_sub_one_eq_mod, e]
set_option maxHeartbeats 1000000 in
theorem back_law (n : Nat) (m : Int) (A : Option Addr) (k c : Nat) (bs : List UInt8) (w : World) (hS : Std w) (hn : n < 18446744073709551616) (hr : Rd w A k bs) (hk : k ≤ maxLen) :
    Calls Tryd.prog 6 #[.int .u64 n, .int .i64 m, .slice A k c] w fun e w' => e = .returned (.bool true) ∧ Below w.heap.size w w' := by
  unfold maxLen at hk
  by_cases hbig : 500 < k
  · go_enter Tryd.func6, Tryd.ntmps6
    go_wp2_with fail
    refine (heads_any w hS).mono ?_
    rintro e w1 ⟨rfl, hb⟩
    go_wp2
    go_ret
    exact ⟨rfl, hb⟩
  · go_enter Tryd.func6, Tryd.ntmps6
    go_wp2_with fail
    refine (put_c n m w hn).mono ?_
    rintro e w1 ⟨A1, k1, c1, rfl, hr1, hb1⟩
    go_wp2_with fail
    refine (get_c A1 k1 c1 _ w1 hr1).mono ?_
    rintro e w2 ⟨rfl, rfl⟩
    have hX := put_X n m
    have hE := put_E n m
    by_cases hm : 1 ≤ m ∧ m ≤ 7
    · have HM := hide (mask_X n m hm.1 hm.2 hn)
      obtain ⟨hm1, hm2⟩ := hm
      have e1 := hE hm1 (by omega)
      have e2 := hX hm1 (by omega)
      rw [e1, e2]
      generalize n % 256 ^ m.toNat = z at *
      have hz : ((z : Int) != bits .and .u64 (n : Int) (IntKind.u64.wrap (IntKind.u64.wrap (2 ^ (8 * m).toNat) - 1))) = false := by rw [HM.out]; simp
      clear hX hE e1 e2
      go_wp2_with fail
      refine (dec_any (wrap64 n) w1 (wrap64_R _) (hS.below hb1)).mono ?_
      rintro e w2 ⟨rfl, hb2⟩
      have B2 := hide (below_more hb1 (Nat.le_refl _) hb2)
      clear hb2
      go_wp2_with fail
      have c3 := parse_c ⟨(Lib.itoa (wrap64 n)).toArray⟩ w2 (by have := itoa_len (wrap64 n) (wrap64_R _); rw [size_mk]; omega) (hS.below B2.out)
      simp only [(p_yes (wrap64 n) (wrap64_R _)).1, (p_yes (wrap64 n) (wrap64_R _)).2] at c3
      refine c3.mono ?_
      rintro e w3 ⟨rfl, hb3⟩
      clear c3
      have B3 := hide (below_more B2.out (Nat.le_refl _) hb3)
      clear hb3
      go_wp2_with fail
      refine (hex_any A k c bs w3 ((hr.below B3.out).more B3.out.size) (by omega)).mono ?_
      rintro e w4 ⟨rfl, hb4⟩
      have B4 := hide (below_more B3.out (Nat.le_refl _) hb4)
      clear hb4
      go_wp2_with fail
      have c5 := unhex_c ⟨(hexL bs).toArray⟩ w4 (by have := hexL_length bs; have := hr.len; rw [size_mk]; omega)
      simp only [(u_hex bs).1, (u_hex bs).2] at c5
      refine c5.mono ?_
      rintro e w5 ⟨A5, n5, c5', rfl, hr5, hb5⟩
      clear c5
      have B5 := hide (below_more B4.out (Nat.le_refl _) hb5)
      clear hb5
      have t2 : (wrap64 (n : Int) == wrap64 (n : Int)) = true := by simp
      go_wp2_with fail
      refine (same_any A5 A n5 k c5' c bs bs w5 _ _ hr5 (hr.below B5.out)).mono ?_
      rintro e w6 ⟨rfl, rfl⟩
      rw [show (bs == bs) = true from by simp]
      go_wp2_with fail
      refine (heads_any w5 (hS.below B5.out)).mono ?_
      rintro e w7 ⟨rfl, hb7⟩
      go_wp2
      go_ret
      exact ⟨rfl, below_more B5.out (Nat.le_refl _) hb7⟩
    · by_cases hm8 : m = 8
      · subst hm8
        have e1 := hE (by omega) (by omega)
        have e2 := hX (by omega) (by omega)
        rw [e1, e2, show (n % 256 ^ (8 : Int).toNat) = n from Nat.mod_eq_of_lt hn]
        have hz : ((n : Int) != (n : Int)) = false := by simp
        clear hX hE e1 e2
        go_wp2_with fail
        refine (dec_any (wrap64 n) w1 (wrap64_R _) (hS.below hb1)).mono ?_
        rintro e w2 ⟨rfl, hb2⟩
        have B2 := hide (below_more hb1 (Nat.le_refl _) hb2)
        clear hb2
        go_wp2_with fail
        have c3 := parse_c ⟨(Lib.itoa (wrap64 n)).toArray⟩ w2 (by have := itoa_len (wrap64 n) (wrap64_R _); rw [size_mk]; omega) (hS.below B2.out)
        simp only [(p_yes (wrap64 n) (wrap64_R _)).1, (p_yes (wrap64 n) (wrap64_R _)).2] at c3
        refine c3.mono ?_
        rintro e w3 ⟨rfl, hb3⟩
        clear c3
        have B3 := hide (below_more B2.out (Nat.le_refl _) hb3)
        clear hb3
        go_wp2_with fail
        refine (hex_any A k c bs w3 ((hr.below B3.out).more B3.out.size) (by omega)).mono ?_
        rintro e w4 ⟨rfl, hb4⟩
        have B4 := hide (below_more B3.out (Nat.le_refl _) hb4)
        clear hb4
        go_wp2_with fail
        have c5 := unhex_c ⟨(hexL bs).toArray⟩ w4 (by have := hexL_length bs; have := hr.len; rw [size_mk]; omega)
        simp only [(u_hex bs).1, (u_hex bs).2] at c5
        refine c5.mono ?_
        rintro e w5 ⟨A5, n5, c5', rfl, hr5, hb5⟩
        clear c5
        have B5 := hide (below_more B4.out (Nat.le_refl _) hb5)
        clear hb5
        have t2 : (wrap64 (n : Int) == wrap64 (n : Int)) = true := by simp
        go_wp2_with fail
        refine (same_any A5 A n5 k c5' c bs bs w5 _ _ hr5 (hr.below B5.out)).mono ?_
        rintro e w6 ⟨rfl, rfl⟩
        rw [show (bs == bs) = true from by simp]
        go_wp2_with fail
        refine (heads_any w5 (hS.below B5.out)).mono ?_
        rintro e w7 ⟨rfl, hb7⟩
        go_wp2
        go_ret
        exact ⟨rfl, below_more B5.out (Nat.le_refl _) hb7⟩
      · generalize getE (putL n m) = y1
        generalize getX (putL n m) = y2
        clear hX hE
        by_cases hm1 : m < 1
        · go_wp2_with fail
          refine (dec_any (wrap64 n) w1 (wrap64_R _) (hS.below hb1)).mono ?_
          rintro e w2 ⟨rfl, hb2⟩
          have B2 := hide (below_more hb1 (Nat.le_refl _) hb2)
          clear hb2
          go_wp2_with fail
          have c3 := parse_c ⟨(Lib.itoa (wrap64 n)).toArray⟩ w2 (by have := itoa_len (wrap64 n) (wrap64_R _); rw [size_mk]; omega) (hS.below B2.out)
          simp only [(p_yes (wrap64 n) (wrap64_R _)).1, (p_yes (wrap64 n) (wrap64_R _)).2] at c3
          refine c3.mono ?_
          rintro e w3 ⟨rfl, hb3⟩
          clear c3
          have B3 := hide (below_more B2.out (Nat.le_refl _) hb3)
          clear hb3
          go_wp2_with fail
          refine (hex_any A k c bs w3 ((hr.below B3.out).more B3.out.size) (by omega)).mono ?_
          rintro e w4 ⟨rfl, hb4⟩
          have B4 := hide (below_more B3.out (Nat.le_refl _) hb4)
          clear hb4
          go_wp2_with fail
          have c5 := unhex_c ⟨(hexL bs).toArray⟩ w4 (by have := hexL_length bs; have := hr.len; rw [size_mk]; omega)
          simp only [(u_hex bs).1, (u_hex bs).2] at c5
          refine c5.mono ?_
          rintro e w5 ⟨A5, n5, c5', rfl, hr5, hb5⟩
          clear c5
          have B5 := hide (below_more B4.out (Nat.le_refl _) hb5)
          clear hb5
          have t2 : (wrap64 (n : Int) == wrap64 (n : Int)) = true := by simp
          go_wp2_with fail
          refine (same_any A5 A n5 k c5' c bs bs w5 _ _ hr5 (hr.below B5.out)).mono ?_
          rintro e w6 ⟨rfl, rfl⟩
          rw [show (bs == bs) = true from by simp]
          go_wp2_with fail
          refine (heads_any w5 (hS.below B5.out)).mono ?_
          rintro e w7 ⟨rfl, hb7⟩
          go_wp2
          go_ret
          exact ⟨rfl, below_more B5.out (Nat.le_refl _) hb7⟩
        · have hm9 : 8 < m := by omega
          go_wp2_with fail
          refine (dec_any (wrap64 n) w1 (wrap64_R _) (hS.below hb1)).mono ?_
          rintro e w2 ⟨rfl, hb2⟩
          have B2 := hide (below_more hb1 (Nat.le_refl _) hb2)
          clear hb2
          go_wp2_with fail
          have c3 := parse_c ⟨(Lib.itoa (wrap64 n)).toArray⟩ w2 (by have := itoa_len (wrap64 n) (wrap64_R _); rw [size_mk]; omega) (hS.below B2.out)
          simp only [(p_yes (wrap64 n) (wrap64_R _)).1, (p_yes (wrap64 n) (wrap64_R _)).2] at c3
          refine c3.mono ?_
          rintro e w3 ⟨rfl, hb3⟩
          clear c3
          have B3 := hide (below_more B2.out (Nat.le_refl _) hb3)
          clear hb3
          go_wp2_with fail
          refine (hex_any A k c bs w3 ((hr.below B3.out).more B3.out.size) (by omega)).mono ?_
          rintro e w4 ⟨rfl, hb4⟩
          have B4 := hide (below_more B3.out (Nat.le_refl _) hb4)
          clear hb4
          go_wp2_with fail
          have c5 := unhex_c ⟨(hexL bs).toArray⟩ w4 (by have := hexL_length bs; have := hr.len; rw [size_mk]; omega)
          simp only [(u_hex bs).1, (u_hex bs).2] at c5
          refine c5.mono ?_
          rintro e w5 ⟨A5, n5, c5', rfl, hr5, hb5⟩
          clear c5
          have B5 := hide (below_more B4.out (Nat.le_refl _) hb5)
          clear hb5
          have t2 : (wrap64 (n : Int) == wrap64 (n : Int)) = true := by simp
          go_wp2_with fail
          refine (same_any A5 A n5 k c5' c bs bs w5 _ _ hr5 (hr.below B5.out)).mono ?_
          rintro e w6 ⟨rfl, rfl⟩
          rw [show (bs == bs) = true from by simp]
          go_wp2_with fail
          refine (heads_any w5 (hS.below B5.out)).mono ?_
          rintro e w7 ⟨rfl, hb7⟩
          go_wp2
          go_ret
          exact ⟨rfl, below_more B5.out (Nat.le_refl _) hb7⟩
end Go.Proofs.YtmejcmdnjfjphaaDoor
