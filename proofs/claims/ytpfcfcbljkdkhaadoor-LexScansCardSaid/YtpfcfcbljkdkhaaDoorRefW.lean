/- The contract of the reference's number. -/
import Derived.Test.YtpfcfcbljkdkhaaDoorRefV
import Derived.Test.YtpfcfcbljkdkhaaDoorLexY
namespace Go.Proofs.YtpfcfcbljkdkhaaDoor
open Go.RowKit
set_option linter.unusedVariables false
/-- What number hands back: where the digits end, or none. -/
def numAt (p : LB) (i : Nat) : Nat := if 0 < numP (p.drop i) then i + numP (p.drop i) else 0
theorem dig_zero : dig 0 = false := by decide
theorem num_out (p : LB) (i k : Nat) (hi : i ≤ p.length) (hk : k ≤ 3) (hik : i + k ≤ p.length) (hd : ∀ q, q < k → dig (p.getD (i + q) 0) = true) (hx : k = 3 ∨ dig (p.getD (i + k) 0) = false) :
    numAt p i = if k = 0 ∨ i + k = p.length ∨ (p.getD (i + k) 0 ≠ 60 ∧ p.getD (i + k) 0 ≠ 62) then 0 else i + k := by
  have hlen : (p.drop i).length = p.length - i := by simp
  by_cases hd3 : dig (p.getD (i + k) 0) = true
  · have h3 : k = 3 := by rcases hx with h | h; exact h; rw [hd3] at h; cases h
    subst h3
    have h4 : digs 4 (p.drop i) = 4 := digs_unique 4 4 _ (Nat.le_refl _) (fun q hq => by
      rw [dropD]
      rcases Nat.lt_or_ge q 3 with h | h
      · exact hd q h
      · obtain rfl : q = 3 := by omega
        exact hd3) (fun h => absurd h (by decide))
    have hn : numP (p.drop i) = 0 := by
      unfold numP
      rw [h4, if_pos (.inl (by decide))]
    have hne : p.getD (i + 3) 0 ≠ 60 ∧ p.getD (i + 3) 0 ≠ 62 := ⟨fun h => by rw [h] at hd3; revert hd3; decide, fun h => by rw [h] at hd3; revert hd3; decide⟩
    unfold numAt
    rw [hn, if_neg (by omega), if_pos (.inr (.inr hne))]
  · have hd3 : dig (p.getD (i + k) 0) = false := by simpa using hd3
    have h4 : digs 4 (p.drop i) = k := digs_unique 4 k _ (by omega) (fun q hq => by rw [dropD]; exact hd q hq) (fun _ => by rw [dropD]; exact hd3)
    have hn : numP (p.drop i) = if 3 < k ∨ k = p.length - i ∨ (p.getD (i + k) 0 ≠ 60 ∧ p.getD (i + k) 0 ≠ 62) then 0 else k := by
      unfold numP
      rw [h4, hlen, dropD]
    unfold numAt
    by_cases hc : k = 0 ∨ i + k = p.length ∨ (p.getD (i + k) 0 ≠ 60 ∧ p.getD (i + k) 0 ≠ 62)
    · rw [if_pos hc]
      have hz : numP (p.drop i) = 0 := by
        rcases hc with h | h | h
        · rw [hn, h]; split <;> rfl
        · rw [hn, if_pos (.inr (.inl (by omega)))]
        · rw [hn, if_pos (.inr (.inr h))]
      rw [hz, if_neg (by omega)]
    · rw [if_neg hc]
      have h1 : ¬ (3 < k ∨ k = p.length - i ∨ (p.getD (i + k) 0 ≠ 60 ∧ p.getD (i + k) 0 ≠ 62)) := by
        intro h
        rcases h with h | h | h
        · omega
        · exact hc (.inr (.inl (by omega)))
        · exact hc (.inr (.inr h))
      have h0 : k ≠ 0 := fun h => hc (.inl h)
      rw [hn, if_neg h1, if_pos (by omega)]
set_option maxRecDepth 1000000 in
set_option maxHeartbeats 8000000 in
theorem refnum_any (p : LB) (hl : p.length ≤ 100000) (i0 : Nat) (h0 : i0 ≤ p.length) (w : World) : Calls Tryd.prog 21 #[.string ⟨p.toArray⟩, .int .i64 (i0 : Int)] w fun e w' => e = .returned (.int .i64 ((numAt p i0 : Nat) : Int)) ∧ w' = w := by
  have HN := hide (num_out p i0)
  obtain ⟨R, hR⟩ : ∃ R, numAt p i0 = R := ⟨_, rfl⟩
  rw [hR] at HN ⊢
  clear hR
  go_enter Tryd.func21, Tryd.ntmps21
  go_wp2_with fail
  go_loopw [5] (fun u5 wx => ∃ k : Nat, u5 = .int .i64 ((i0 + k : Nat) : Int) ∧ k ≤ 3 ∧ i0 + k ≤ p.length ∧ Hid (∀ q, q < k → dig (p.getD (i0 + q) 0) = true) ∧ wx = w) (fun u5 _ => p.length - (intOf u5).toNat)
  case atStart => exact ⟨0, rfl, by omega, h0, hide (fun q h => absurd h (by omega)), rfl⟩
  case round =>
    obtain ⟨k, rfl, hk3, hkl, HD, rfl⟩ := hrel
    have kc : ((i0 + k : Nat) : Int) = (i0 : Int) + (k : Int) := by omega
    have kw : IntKind.i64.wrap (((i0 + k : Nat) : Int) - (i0 : Int)) = (k : Int) := by rw [kc]; simp [IntKind.wrap, IntKind.bits, IntKind.signed]; omega
    obtain ⟨i, hi⟩ : ∃ i, i0 + k = i := ⟨_, rfl⟩
    have HI := hide hi
    have HN2 := hide (HN.out k h0 hk3 hkl HD.out)
    rw [hi] at kw hkl ⊢ HN2
    clear kc hi HN
    by_cases hlt : i < p.length
    · have kl : (i : Int) < (p.length : Int) := by omega
      have hix := ix_l p i (p.getD i 0) (getD_some hlt)
      have e60 := u8_beq (p.getD i 0) 60
      change (((p.getD i 0).toNat : Int) == 60) = _ at e60
      have e62 := u8_beq (p.getD i 0) 62
      change (((p.getD i 0).toNat : Int) == 62) = _ at e62
      have HDI : Hid (k < 3 → dig (p.getD i 0) = true → ∀ q, q < k + 1 → dig (p.getD (i0 + q) 0) = true) := hide (fun _ hd q hq => by
        rcases Nat.lt_or_ge q k with h | h
        · exact HD.out q h
        · obtain rfl : q = k := by omega
          rw [HI.out]; exact hd)
      have hdg : dig (p.getD i 0) = (decide (48 ≤ (p.getD i 0).toNat) && decide ((p.getD i 0).toNat ≤ 57)) := rfl
      have k5 : ((i : Int) == (p.length : Int)) = false := beq_eq_false_iff_ne.2 (by omega)
      generalize p.getD i 0 = c at *
      have HDG := hide hdg
      clear hdg HD
      rcases (show (k < 3 ∧ 48 ≤ c.toNat ∧ c.toNat ≤ 57) ∨ k = 3 ∨ (k < 3 ∧ c.toNat < 48) ∨ (k < 3 ∧ 57 < c.toNat) by omega) with hX | hX | hX | hX
      · have x1 : (k : Int) < 3 := by omega
        have x2 : (48 : Int) ≤ (c.toNat : Int) := by omega
        have x3 : (c.toNat : Int) ≤ 57 := by omega
        have HD2 := hide (HDI.out hX.1 (by rw [HDG.out, decide_eq_true (by omega), decide_eq_true (by omega)]; rfl))
        have kk3 : k + 1 ≤ 3 := by omega
        have ki : ((i : Int) + 1) = ((i0 + (k + 1) : Nat) : Int) := by have := HI.out; omega
        have KI := hide ki
        clear HDI HDG hX e60 e62 HN2 ki
        go_wp2_with fail
        go_roundw
        case rel => exact ⟨k + 1, by rw [← KI.out], kk3, by have := HI.out; omega, HD2, by trivial⟩
        case measure => simp [intOf]; omega
      · have x1 : ¬ (k : Int) < 3 := by omega
        have hn2 := HN2.out (.inl hX)
        have HN3 := hide hn2
        clear HN2 hn2 HDG HDI
        by_cases hk0 : k = 0
        · have t0 : ((i : Int) == (i0 : Int)) = true := beq_iff_eq.2 (by have := HI.out; omega)
          have HX : Hid (R = 0) := hide (by rw [HN3.out, if_pos (.inl hk0)])
          clear HN3 hk0 e60 e62
          go_wp2_with fail
          go_ret
          exact ⟨by rw [HX.out]; first | done | rfl, rfl⟩
        have t0 : ((i : Int) == (i0 : Int)) = false := beq_eq_false_iff_ne.2 (by have := HI.out; omega)
        by_cases h60 : c = 60
        · have q1 : ((c.toNat : Int) != 60) = false := by rw [bne, e60, beq_iff_eq.2 h60]; rfl
          have HX : Hid (R = i) := hide (by rw [HN3.out, if_neg (by rintro (h | h | h); exact hk0 h; omega; exact h.1 h60)])
          clear HN3 hk0 e60 e62 h60
          go_wp2_with fail
          go_ret
          exact ⟨by rw [HX.out]; first | done | rfl, rfl⟩
        have q1 : ((c.toNat : Int) != 60) = true := by rw [bne, e60, beq_eq_false_iff_ne.2 h60]; rfl
        by_cases h62 : c = 62
        · have q2 : ((c.toNat : Int) != 62) = false := by rw [bne, e62, beq_iff_eq.2 h62]; rfl
          have HX : Hid (R = i) := hide (by rw [HN3.out, if_neg (by rintro (h | h | h); exact hk0 h; omega; exact h.2 h62)])
          clear HN3 hk0 e60 e62 h60 h62
          go_wp2_with fail
          go_ret
          exact ⟨by rw [HX.out]; first | done | rfl, rfl⟩
        have q2 : ((c.toNat : Int) != 62) = true := by rw [bne, e62, beq_eq_false_iff_ne.2 h62]; rfl
        have HX : Hid (R = 0) := hide (by rw [HN3.out, if_pos (.inr (.inr ⟨h60, h62⟩))])
        clear HN3 hk0 e60 e62 h60 h62
        go_wp2_with fail
        go_ret
        exact ⟨by rw [HX.out]; first | done | rfl, rfl⟩
      · have x1 : (k : Int) < 3 := by omega
        have x2 : ¬ (48 : Int) ≤ (c.toNat : Int) := by omega
        have hn2 := HN2.out (.inr (by rw [HDG.out, decide_eq_false (by omega)]; rfl))
        have HN3 := hide hn2
        clear HN2 hn2 HDG HDI
        by_cases hk0 : k = 0
        · have t0 : ((i : Int) == (i0 : Int)) = true := beq_iff_eq.2 (by have := HI.out; omega)
          have HX : Hid (R = 0) := hide (by rw [HN3.out, if_pos (.inl hk0)])
          clear HN3 hk0 e60 e62
          go_wp2_with fail
          go_ret
          exact ⟨by rw [HX.out]; first | done | rfl, rfl⟩
        have t0 : ((i : Int) == (i0 : Int)) = false := beq_eq_false_iff_ne.2 (by have := HI.out; omega)
        by_cases h60 : c = 60
        · have q1 : ((c.toNat : Int) != 60) = false := by rw [bne, e60, beq_iff_eq.2 h60]; rfl
          have HX : Hid (R = i) := hide (by rw [HN3.out, if_neg (by rintro (h | h | h); exact hk0 h; omega; exact h.1 h60)])
          clear HN3 hk0 e60 e62 h60
          go_wp2_with fail
          go_ret
          exact ⟨by rw [HX.out]; first | done | rfl, rfl⟩
        have q1 : ((c.toNat : Int) != 60) = true := by rw [bne, e60, beq_eq_false_iff_ne.2 h60]; rfl
        by_cases h62 : c = 62
        · have q2 : ((c.toNat : Int) != 62) = false := by rw [bne, e62, beq_iff_eq.2 h62]; rfl
          have HX : Hid (R = i) := hide (by rw [HN3.out, if_neg (by rintro (h | h | h); exact hk0 h; omega; exact h.2 h62)])
          clear HN3 hk0 e60 e62 h60 h62
          go_wp2_with fail
          go_ret
          exact ⟨by rw [HX.out]; first | done | rfl, rfl⟩
        have q2 : ((c.toNat : Int) != 62) = true := by rw [bne, e62, beq_eq_false_iff_ne.2 h62]; rfl
        have HX : Hid (R = 0) := hide (by rw [HN3.out, if_pos (.inr (.inr ⟨h60, h62⟩))])
        clear HN3 hk0 e60 e62 h60 h62
        go_wp2_with fail
        go_ret
        exact ⟨by rw [HX.out]; first | done | rfl, rfl⟩
      · have x1 : (k : Int) < 3 := by omega
        have x2 : (48 : Int) ≤ (c.toNat : Int) := by omega
        have x3 : ¬ (c.toNat : Int) ≤ 57 := by omega
        have hn2 := HN2.out (.inr (by rw [HDG.out, decide_eq_false (by omega : ¬ c.toNat ≤ 57), Bool.and_false]))
        have HN3 := hide hn2
        clear HN2 hn2 HDG HDI
        by_cases hk0 : k = 0
        · have t0 : ((i : Int) == (i0 : Int)) = true := beq_iff_eq.2 (by have := HI.out; omega)
          have HX : Hid (R = 0) := hide (by rw [HN3.out, if_pos (.inl hk0)])
          clear HN3 hk0 e60 e62
          go_wp2_with fail
          go_ret
          exact ⟨by rw [HX.out]; first | done | rfl, rfl⟩
        have t0 : ((i : Int) == (i0 : Int)) = false := beq_eq_false_iff_ne.2 (by have := HI.out; omega)
        by_cases h60 : c = 60
        · have q1 : ((c.toNat : Int) != 60) = false := by rw [bne, e60, beq_iff_eq.2 h60]; rfl
          have HX : Hid (R = i) := hide (by rw [HN3.out, if_neg (by rintro (h | h | h); exact hk0 h; omega; exact h.1 h60)])
          clear HN3 hk0 e60 e62 h60
          go_wp2_with fail
          go_ret
          exact ⟨by rw [HX.out]; first | done | rfl, rfl⟩
        have q1 : ((c.toNat : Int) != 60) = true := by rw [bne, e60, beq_eq_false_iff_ne.2 h60]; rfl
        by_cases h62 : c = 62
        · have q2 : ((c.toNat : Int) != 62) = false := by rw [bne, e62, beq_iff_eq.2 h62]; rfl
          have HX : Hid (R = i) := hide (by rw [HN3.out, if_neg (by rintro (h | h | h); exact hk0 h; omega; exact h.2 h62)])
          clear HN3 hk0 e60 e62 h60 h62
          go_wp2_with fail
          go_ret
          exact ⟨by rw [HX.out]; first | done | rfl, rfl⟩
        have q2 : ((c.toNat : Int) != 62) = true := by rw [bne, e62, beq_eq_false_iff_ne.2 h62]; rfl
        have HX : Hid (R = 0) := hide (by rw [HN3.out, if_pos (.inr (.inr ⟨h60, h62⟩))])
        clear HN3 hk0 e60 e62 h60 h62
        go_wp2_with fail
        go_ret
        exact ⟨by rw [HX.out]; first | done | rfl, rfl⟩
    · have kl : ¬ (i : Int) < (p.length : Int) := by omega
      have k5 : ((i : Int) == (p.length : Int)) = true := beq_iff_eq.2 (by omega)
      have hz : p.getD i 0 = 0 := by rw [List.getD_eq_getElem?_getD, List.getElem?_eq_none (by omega)]; rfl
      have HX : Hid (R = 0) := hide (by rw [HN2.out (.inr (by rw [hz]; rfl)), if_pos (.inr (.inl (by omega)))])
      clear HN2 hz HD
      by_cases hk0 : k = 0
      · have t0 : ((i : Int) == (i0 : Int)) = true := beq_iff_eq.2 (by have := HI.out; omega)
        clear hk0
        go_wp2_with fail
        go_ret
        exact ⟨by rw [HX.out]; first | done | rfl, rfl⟩
      have t0 : ((i : Int) == (i0 : Int)) = false := beq_eq_false_iff_ne.2 (by have := HI.out; omega)
      clear hk0
      go_wp2_with fail
      go_ret
      exact ⟨by rw [HX.out]; first | done | rfl, rfl⟩
end Go.Proofs.YtpfcfcbljkdkhaaDoor
