/- The law GlobStars. -/
import Derived.Test.YteclcjpbebimeaaDoorLawQ
namespace Go.Proofs.YteclcjpbebimeaaDoor
open Go.RowKit
set_option linter.unusedVariables false
theorem catB (a b : Bs) : ((⟨a.toArray⟩ : ByteArray) ++ (⟨b.toArray⟩ : ByteArray)) = ⟨(a ++ b).toArray⟩ := by
  apply ByteArray.ext
  apply Array.toList_inj.1
  simp [ByteArray.data_append]
set_option maxRecDepth 100000 in
set_option maxHeartbeats 8000000 in
theorem stars_law (p s t : Bs) (w : World) (hS : Std w) : Calls Tryd.prog 4 #[.string ⟨p.toArray⟩, .string ⟨s.toArray⟩, .string ⟨t.toArray⟩] w fun e w' => e = .returned (.bool true) ∧ Below w.heap.size w w' := by
  have HS := hide hS
  have K0 := hide (Below.refl w.heap.size w)
  clear hS
  by_cases hp : 200 < p.length
  · have hp' : (200 : Int) < (p.length : Int) := by omega
    go_enter Tryd.func4, Tryd.ntmps4
    go_wp2_with fail
    refine (heads_any _ (HS.out.below K0.out)).mono ?_
    rintro e w9 ⟨rfl, h9⟩
    have H9 := hide (below_more K0.out (Nat.le_refl _) h9)
    clear h9
    go_wp2_with fail
    go_ret
    exact ⟨rfl, H9.out⟩
  have hp' : ¬ (200 : Int) < (p.length : Int) := by omega
  by_cases hs : 200 < s.length
  · have hs' : (200 : Int) < (s.length : Int) := by omega
    go_enter Tryd.func4, Tryd.ntmps4
    go_wp2_with fail
    refine (heads_any _ (HS.out.below K0.out)).mono ?_
    rintro e w9 ⟨rfl, h9⟩
    have H9 := hide (below_more K0.out (Nat.le_refl _) h9)
    clear h9
    go_wp2_with fail
    go_ret
    exact ⟨rfl, H9.out⟩
  have hs' : ¬ (200 : Int) < (s.length : Int) := by omega
  by_cases ht : 200 < t.length
  · have ht' : (200 : Int) < (t.length : Int) := by omega
    go_enter Tryd.func4, Tryd.ntmps4
    go_wp2_with fail
    refine (heads_any _ (HS.out.below K0.out)).mono ?_
    rintro e w9 ⟨rfl, h9⟩
    have H9 := hide (below_more K0.out (Nat.le_refl _) h9)
    clear h9
    go_wp2_with fail
    go_ret
    exact ⟨rfl, H9.out⟩
  have ht' : ¬ (200 : Int) < (t.length : Int) := by omega
  go_enter Tryd.func4, Tryd.ntmps4
  go_wp2_with fail
  go_loopw [7] (fun u7 wx => ∃ i : Nat, i ≤ p.length ∧ u7 = .int .i64 i ∧ Hid (Below w.heap.size w wx) ∧ Hid (∀ j (h : j < p.length), j < i → p[j] ≠ 91 ∧ p[j] ≠ 92)) (fun u7 _ => p.length - (intOf u7).toNat)
  case atStart => exact ⟨0, Nat.zero_le _, rfl, K0, hide (fun j h h2 => by omega)⟩
  case round =>
    clear K0
    obtain ⟨i, hi, rfl, HB, HC⟩ := hrel
    by_cases hlt : i < p.length
    · obtain ⟨c, hc⟩ : ∃ c, p[i] = c := ⟨_, rfl⟩
      have hc' : p[i]? = some c := by rw [List.getElem?_eq_getElem hlt, hc]
      have hix := ix_l p i c hc'
      have hlt' : (i : Int) < (p.length : Int) := by omega
      have t91 := u8_beq c 91
      have t92 := u8_beq c 92
      change ((c.toNat : Int) == 91) = _ at t91
      change ((c.toNat : Int) == 92) = _ at t92
      by_cases h1 : c = 91
      · rw [beq_iff_eq.2 h1] at t91
        clear hc hc' h1 t92
        go_wp2_with fail
        refine (heads_any _ (HS.out.below HB.out)).mono ?_
        rintro e w9 ⟨rfl, h9⟩
        have H9 := hide (below_more HB.out (Nat.le_refl _) h9)
        clear h9
        go_wp2_with fail
        go_ret
        exact ⟨rfl, H9.out⟩
      rw [beq_eq_false_iff_ne.2 h1] at t91
      by_cases h2 : c = 92
      · rw [beq_iff_eq.2 h2] at t92
        clear hc hc' h1 h2
        go_wp2_with fail
        refine (heads_any _ (HS.out.below HB.out)).mono ?_
        rintro e w9 ⟨rfl, h9⟩
        have H9 := hide (below_more HB.out (Nat.le_refl _) h9)
        clear h9
        go_wp2_with fail
        go_ret
        exact ⟨rfl, H9.out⟩
      rw [beq_eq_false_iff_ne.2 h2] at t92
      have HC2 : Hid (∀ j (h : j < p.length), j < i + 1 → p[j] ≠ 91 ∧ p[j] ≠ 92) := hide (fun j h h3 => by
        rcases Nat.lt_or_ge j i with h4 | h4
        · exact HC.out j h h4
        · obtain rfl : j = i := by omega
          rw [hc]; exact ⟨h1, h2⟩)
      clear hc hc' h1 h2
      go_wp2_with fail
      go_roundw
      case rel => exact ⟨i + 1, by omega, by go_num, HB, HC2⟩
      case measure => simp [intOf]; omega
    · have HP : ∀ c ∈ p, c ≠ 91 ∧ c ≠ 92 := fun c hc => by
        obtain ⟨j, hj, rfl⟩ := List.getElem_of_mem hc
        exact HC.out j hj (by omega)
      have hlt' : ¬ (i : Int) < (p.length : Int) := by omega
      have K0 := HB
      obtain ⟨v, hv⟩ : ∃ v, MatchP p s = v := ⟨_, rfl⟩
      have XM := hide (fun W => match_n p s v hv W)
      cases v with
      | false =>
        have XS := hide (fun W => match_n [42] s true (match_star s (by omega)) W)
        clear hv HP
        go_wp2_with fail
        refine (XM.out _).mono ?_
        rintro e w1 ⟨rfl, k⟩
        have K1 := hide (below_more K0.out (Nat.le_refl _) k)
        clear k
        go_wp2_with fail
        refine (XS.out _).mono ?_
        rintro e w2 ⟨rfl, k⟩
        have K2 := hide (below_more K1.out (Nat.le_refl _) k)
        clear k
        go_wp2_with fail
        refine (heads_any _ (HS.out.below K2.out)).mono ?_
        rintro e w9 ⟨rfl, h9⟩
        have H9 := hide (below_more K2.out (Nat.le_refl _) h9)
        clear h9
        go_wp2_with fail
        go_ret
        exact ⟨rfl, H9.out⟩
      | true =>
        obtain ⟨q, hqq⟩ : ∃ q, quoteP t = q := ⟨_, rfl⟩
        have e1 := match_behind p s t (by omega) (by omega) (by omega) HP hv
        have e2 := match_ahead p s t (by omega) (by omega) (by omega) hv
        have e3 := match_own p s t (by omega) (by omega) (by omega) HP hv
        have e4 := quote_len t
        rw [hqq] at e3 e4
        have X1 := hide (fun W => match_n _ _ true e1 W)
        have X2 := hide (fun W => match_n _ _ true e2 W)
        have X3 := hide (fun W => match_n _ _ true e3 W)
        have XQ := hide (fun W => quote_n t q hqq (by omega) W)
        have g1 := catB p [42]
        have g2 := catB s t
        have g3 := catB [42] p
        have g4 := catB t s
        have g5 := catB p q
        have G1 := hide g1
        have G2 := hide g2
        have G3 := hide g3
        have G4 := hide g4
        have G5 := hide g5
        clear e1 e2 e3 hv hqq HP g1 g2 g3 g4 g5
        go_wp2_with fail
        refine (XM.out _).mono ?_
        rintro e w1 ⟨rfl, k⟩
        have K1 := hide (below_more K0.out (Nat.le_refl _) k)
        clear k
        go_wp2_with fail
        rw [G1.out, G2.out]
        refine (X1.out _).mono ?_
        rintro e w2 ⟨rfl, k⟩
        have K2 := hide (below_more K1.out (Nat.le_refl _) k)
        clear k
        go_wp2_with fail
        rw [G3.out, G4.out]
        refine (X2.out _).mono ?_
        rintro e w3 ⟨rfl, k⟩
        have K3 := hide (below_more K2.out (Nat.le_refl _) k)
        clear k
        go_wp2_with fail
        refine (XQ.out _).mono ?_
        rintro e w4 ⟨rfl, k⟩
        have K4 := hide (below_more K3.out (Nat.le_refl _) k)
        clear k
        go_wp2_with fail
        rw [G5.out, G2.out]
        refine (X3.out _).mono ?_
        rintro e w5 ⟨rfl, k⟩
        have K5 := hide (below_more K4.out (Nat.le_refl _) k)
        clear k
        go_wp2_with fail
        refine (heads_any _ (HS.out.below K5.out)).mono ?_
        rintro e w9 ⟨rfl, h9⟩
        have H9 := hide (below_more K5.out (Nat.le_refl _) h9)
        clear h9
        go_wp2_with fail
        go_ret
        exact ⟨rfl, H9.out⟩
theorem stars_b (a0 a1 a2 : ByteArray) (w : World) (hS : Std w) : Calls Tryd.prog 4 #[.string a0, .string a1, .string a2] w fun e w' => e = .returned (.bool true) ∧ Below w.heap.size w w' := by
  obtain ⟨l, rfl⟩ := bs_of a0
  obtain ⟨m, rfl⟩ := bs_of a1
  obtain ⟨n, rfl⟩ := bs_of a2
  exact stars_law l m n w hS
end Go.Proofs.YteclcjpbebimeaaDoor
