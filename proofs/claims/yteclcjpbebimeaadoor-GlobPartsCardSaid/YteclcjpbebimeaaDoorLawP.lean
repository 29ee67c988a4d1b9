/- The law GlobParts. -/
import Derived.Test.YteclcjpbebimeaaDoorLawS
namespace Go.Proofs.YteclcjpbebimeaaDoor
open Go.RowKit
set_option linter.unusedVariables false
theorem cat3 (a b c : Bs) : ((⟨a.toArray⟩ : ByteArray) ++ (⟨b.toArray⟩ : ByteArray) ++ (⟨c.toArray⟩ : ByteArray)) = ⟨(a ++ b ++ c).toArray⟩ := by
  rw [catB, catB]
theorem first_ix (p : Bs) (c : UInt8) (h : p[0]? = some c) (W : World) : (Instr.index 9 (.string ⟨p.toArray⟩) (.int .i64 0)).run Tryd.prog W = .ok (.int .u8 (c.toNat : Int)) W := ix_l p 0 c h W
set_option maxRecDepth 100000 in
set_option maxHeartbeats 16000000 in
theorem parts_law (p s a b : Bs) (w : World) (hS : Std w) : Calls Tryd.prog 5 #[.string ⟨p.toArray⟩, .string ⟨s.toArray⟩, .string ⟨a.toArray⟩, .string ⟨b.toArray⟩] w fun e w' => e = .returned (.bool true) ∧ Below w.heap.size w w' := by
  have HS := hide hS
  have K0 := hide (Below.refl w.heap.size w)
  clear hS
  by_cases hp : 200 < p.length
  · have hp' : (200 : Int) < (p.length : Int) := by omega
    go_enter Tryd.func5, Tryd.ntmps5
    go_wp2_with fail
    refine (heads_any _ (HS.out.below K0.out)).mono ?_
    rintro e w9 ⟨rfl, h9⟩
    have H9 := hide (below_more K0.out (Nat.le_refl _) h9)
    clear h9
    go_wp2_with fail
    go_ret
    exact ⟨rfl, H9.out⟩
  have hp' : ¬ (200 : Int) < (p.length : Int) := by omega
  by_cases hs : 200 < s.length
  · have hs' : (200 : Int) < (s.length : Int) := by omega
    go_enter Tryd.func5, Tryd.ntmps5
    go_wp2_with fail
    refine (heads_any _ (HS.out.below K0.out)).mono ?_
    rintro e w9 ⟨rfl, h9⟩
    have H9 := hide (below_more K0.out (Nat.le_refl _) h9)
    clear h9
    go_wp2_with fail
    go_ret
    exact ⟨rfl, H9.out⟩
  have hs' : ¬ (200 : Int) < (s.length : Int) := by omega
  by_cases ha : 100 < a.length
  · have ha' : (100 : Int) < (a.length : Int) := by omega
    go_enter Tryd.func5, Tryd.ntmps5
    go_wp2_with fail
    refine (heads_any _ (HS.out.below K0.out)).mono ?_
    rintro e w9 ⟨rfl, h9⟩
    have H9 := hide (below_more K0.out (Nat.le_refl _) h9)
    clear h9
    go_wp2_with fail
    go_ret
    exact ⟨rfl, H9.out⟩
  have ha' : ¬ (100 : Int) < (a.length : Int) := by omega
  by_cases hb : 100 < b.length
  · have hb' : (100 : Int) < (b.length : Int) := by omega
    go_enter Tryd.func5, Tryd.ntmps5
    go_wp2_with fail
    refine (heads_any _ (HS.out.below K0.out)).mono ?_
    rintro e w9 ⟨rfl, h9⟩
    have H9 := hide (below_more K0.out (Nat.le_refl _) h9)
    clear h9
    go_wp2_with fail
    go_ret
    exact ⟨rfl, H9.out⟩
  have hb' : ¬ (100 : Int) < (b.length : Int) := by omega
  by_cases hn : a = [42, 42]
  · have tn : (a == [42, 42]) = true := beq_iff_eq.2 hn
    clear hn
    go_enter Tryd.func5, Tryd.ntmps5
    go_wp2_with fail
    refine (heads_any _ (HS.out.below K0.out)).mono ?_
    rintro e w9 ⟨rfl, h9⟩
    have H9 := hide (below_more K0.out (Nat.le_refl _) h9)
    clear h9
    go_wp2_with fail
    go_ret
    exact ⟨rfl, H9.out⟩
  have tn : (a == [42, 42]) = false := beq_eq_false_iff_ne.2 hn
  have HN := hide hn
  clear hn
  by_cases gp : p.length < 2
  · have gp' : (p.length : Int) < 2 := by omega
    go_enter Tryd.func5, Tryd.ntmps5
    go_wp2_with fail
    refine (heads_any _ (HS.out.below K0.out)).mono ?_
    rintro e w9 ⟨rfl, h9⟩
    have H9 := hide (below_more K0.out (Nat.le_refl _) h9)
    clear h9
    go_wp2_with fail
    go_ret
    exact ⟨rfl, H9.out⟩
  have gp' : ¬ (p.length : Int) < 2 := by omega
  by_cases gs : s.length < 2
  · have gs' : (s.length : Int) < 2 := by omega
    go_enter Tryd.func5, Tryd.ntmps5
    go_wp2_with fail
    refine (heads_any _ (HS.out.below K0.out)).mono ?_
    rintro e w9 ⟨rfl, h9⟩
    have H9 := hide (below_more K0.out (Nat.le_refl _) h9)
    clear h9
    go_wp2_with fail
    go_ret
    exact ⟨rfl, H9.out⟩
  have gs' : ¬ (s.length : Int) < 2 := by omega
  obtain ⟨cp, hcp⟩ : ∃ c, p[0]? = some c := ⟨_, List.getElem?_eq_getElem (by omega)⟩
  have HCp := hide hcp
  have ixp := fun W => first_ix p cp HCp.out W
  clear hcp
  have tp := u8_beq cp 47
  change ((cp.toNat : Int) == 47) = _ at tp
  by_cases hp0 : cp = 47
  case neg =>
    rw [beq_eq_false_iff_ne.2 hp0] at tp
    have tp' : ((cp.toNat : Int) != 47) = true := by rw [bne, tp]; rfl
    clear tp hp0
    go_enter Tryd.func5, Tryd.ntmps5
    go_wp2_with fail
    refine (heads_any _ (HS.out.below K0.out)).mono ?_
    rintro e w9 ⟨rfl, h9⟩
    have H9 := hide (below_more K0.out (Nat.le_refl _) h9)
    clear h9
    go_wp2_with fail
    go_ret
    exact ⟨rfl, H9.out⟩
  rw [beq_iff_eq.2 hp0] at tp
  have tp' : ((cp.toNat : Int) != 47) = false := by rw [bne, tp]; rfl
  clear tp
  have Zp : Hid (p[0]? = some 47) := hide (by rw [HCp.out, hp0])
  clear hp0 HCp
  obtain ⟨cs, hcs⟩ : ∃ c, s[0]? = some c := ⟨_, List.getElem?_eq_getElem (by omega)⟩
  have HCs := hide hcs
  have ixs := fun W => first_ix s cs HCs.out W
  clear hcs
  have ts := u8_beq cs 47
  change ((cs.toNat : Int) == 47) = _ at ts
  by_cases hs0 : cs = 47
  case neg =>
    rw [beq_eq_false_iff_ne.2 hs0] at ts
    have ts' : ((cs.toNat : Int) != 47) = true := by rw [bne, ts]; rfl
    clear ts hs0
    go_enter Tryd.func5, Tryd.ntmps5
    go_wp2_with fail
    refine (heads_any _ (HS.out.below K0.out)).mono ?_
    rintro e w9 ⟨rfl, h9⟩
    have H9 := hide (below_more K0.out (Nat.le_refl _) h9)
    clear h9
    go_wp2_with fail
    go_ret
    exact ⟨rfl, H9.out⟩
  rw [beq_iff_eq.2 hs0] at ts
  have ts' : ((cs.toNat : Int) != 47) = false := by rw [bne, ts]; rfl
  clear ts
  have Zs : Hid (s[0]? = some 47) := hide (by rw [HCs.out, hs0])
  clear hs0 HCs
  go_enter Tryd.func5, Tryd.ntmps5
  go_wp2_with fail
  go_loopw [9] (fun u9 wx => ∃ i : Nat, i ≤ a.length ∧ u9 = .int .i64 i ∧ Hid (Below w.heap.size w wx) ∧ Hid (∀ j (h : j < a.length), j < i → a[j] ≠ 47)) (fun u9 _ => a.length - (intOf u9).toNat)
  case atStart => exact ⟨0, Nat.zero_le _, rfl, K0, hide (fun j h h2 => by omega)⟩
  case round =>
    clear K0
    obtain ⟨i, hi, rfl, HBa, HCa⟩ := hrel
    by_cases hlt : i < a.length
    · obtain ⟨c, hc⟩ : ∃ c, a[i] = c := ⟨_, rfl⟩
      have hc' : a[i]? = some c := by rw [List.getElem?_eq_getElem hlt, hc]
      have hix := ix_l a i c hc'
      have hlt' : (i : Int) < (a.length : Int) := by omega
      have t47 := u8_beq c 47
      change ((c.toNat : Int) == 47) = _ at t47
      by_cases h1 : c = 47
      · rw [beq_iff_eq.2 h1] at t47
        clear hc hc' h1
        go_wp2_with fail
        refine (heads_any _ (HS.out.below HBa.out)).mono ?_
        rintro e w9 ⟨rfl, h9⟩
        have H9 := hide (below_more HBa.out (Nat.le_refl _) h9)
        clear h9
        go_wp2_with fail
        go_ret
        exact ⟨rfl, H9.out⟩
      rw [beq_eq_false_iff_ne.2 h1] at t47
      have HC2 : Hid (∀ j (h : j < a.length), j < i + 1 → a[j] ≠ 47) := hide (fun j h h3 => by
        rcases Nat.lt_or_ge j i with h4 | h4
        · exact HCa.out j h h4
        · obtain rfl : j = i := by omega
          rw [hc]; exact h1)
      clear hc hc' h1
      go_wp2_with fail
      go_roundw
      case rel => exact ⟨i + 1, by omega, by go_num, HBa, HC2⟩
      case measure => simp [intOf]; omega
    · have Na : Hid ((47 : UInt8) ∉ a) := hide (fun hm => by
        obtain ⟨j, hj, h⟩ := List.getElem_of_mem hm
        exact HCa.out j hj (by omega) h)
      have hlta : ¬ (i : Int) < (a.length : Int) := by omega
      clear HCa hlt
      go_wp2_with fail
      go_loopw [10] (fun u10 wx => ∃ i : Nat, i ≤ b.length ∧ u10 = .int .i64 i ∧ Hid (Below w.heap.size w wx) ∧ Hid (∀ j (h : j < b.length), j < i → b[j] ≠ 47)) (fun u10 _ => b.length - (intOf u10).toNat)
      case atStart => exact ⟨0, Nat.zero_le _, rfl, HBa, hide (fun j h h2 => by omega)⟩
      case round =>
        clear HBa
        obtain ⟨i, hi, rfl, HBb, HCb⟩ := hrel
        by_cases hlt : i < b.length
        · obtain ⟨c, hc⟩ : ∃ c, b[i] = c := ⟨_, rfl⟩
          have hc' : b[i]? = some c := by rw [List.getElem?_eq_getElem hlt, hc]
          have hix := ix_l b i c hc'
          have hlt' : (i : Int) < (b.length : Int) := by omega
          have t47 := u8_beq c 47
          change ((c.toNat : Int) == 47) = _ at t47
          by_cases h1 : c = 47
          · rw [beq_iff_eq.2 h1] at t47
            clear hc hc' h1
            go_wp2_with fail
            refine (heads_any _ (HS.out.below HBb.out)).mono ?_
            rintro e w9 ⟨rfl, h9⟩
            have H9 := hide (below_more HBb.out (Nat.le_refl _) h9)
            clear h9
            go_wp2_with fail
            go_ret
            exact ⟨rfl, H9.out⟩
          rw [beq_eq_false_iff_ne.2 h1] at t47
          have HC2 : Hid (∀ j (h : j < b.length), j < i + 1 → b[j] ≠ 47) := hide (fun j h h3 => by
            rcases Nat.lt_or_ge j i with h4 | h4
            · exact HCb.out j h h4
            · obtain rfl : j = i := by omega
              rw [hc]; exact h1)
          clear hc hc' h1
          go_wp2_with fail
          go_roundw
          case rel => exact ⟨i + 1, by omega, by go_num, HBb, HC2⟩
          case measure => simp [intOf]; omega
        · have Nb : Hid ((47 : UInt8) ∉ b) := hide (fun hm => by
            obtain ⟨j, hj, h⟩ := List.getElem_of_mem hm
            exact HCb.out j hj (by omega) h)
          have hltb : ¬ (i : Int) < (b.length : Int) := by omega
          clear HCb hlt
          have K0 := HBb
          obtain ⟨v, hv⟩ : ∃ v, PathP p s = v := ⟨_, rfl⟩
          obtain ⟨m, hm⟩ : ∃ m, MatchP a b = m := ⟨_, rfl⟩
          have XW := hide (fun W h => path_n p s v hv W h)
          have XM := hide (fun W => match_n a b m hm W)
          have e1 := path_part p s a b (by omega) (by omega) (by omega) (by omega) HN.out (by omega) (by omega) Zp.out Zs.out Na.out Nb.out
          rw [hv, hm] at e1
          have XP := hide (fun W h => path_n ([47] ++ a ++ p) ([47] ++ b ++ s) (v && m) e1 W h)
          have G1 := hide (cat3 [47] a p)
          have G2 := hide (cat3 [47] b s)
          have G3 := hide (catB [47, 42, 42] p)
          clear e1 hm
          cases v with
          | false =>
            clear hv
            go_wp2_with fail
            refine (XW.out _ (HS.out.below K0.out)).mono ?_
            rintro e w1 ⟨rfl, k⟩
            have K1 := hide (below_more K0.out (Nat.le_refl _) k)
            clear k
            go_wp2_with fail
            rw [G1.out, G2.out]
            refine (XP.out _ (HS.out.below K1.out)).mono ?_
            rintro e w2 ⟨rfl, k⟩
            have K2 := hide (below_more K1.out (Nat.le_refl _) k)
            clear k
            go_wp2_with fail
            refine (heads_any _ (HS.out.below K2.out)).mono ?_
            rintro e w9 ⟨rfl, h9⟩
            have H9 := hide (below_more K2.out (Nat.le_refl _) h9)
            clear h9
            go_wp2_with fail
            go_ret
            exact ⟨rfl, H9.out⟩
          | true =>
            have e2 := path_stars p s b (by omega) (by omega) (by omega) (by omega) (by omega) Zp.out Zs.out Nb.out hv
            have X2 := hide (fun W h => path_n ([47, 42, 42] ++ p) ([47] ++ b ++ s) true e2.1 W h)
            have X3 := hide (fun W h => path_n ([47, 42, 42] ++ p) s true e2.2 W h)
            clear hv e2
            cases m with
            | false =>
              go_wp2_with fail
              refine (XW.out _ (HS.out.below K0.out)).mono ?_
              rintro e w1 ⟨rfl, k⟩
              have K1 := hide (below_more K0.out (Nat.le_refl _) k)
              clear k
              go_wp2_with fail
              rw [G1.out, G2.out]
              refine (XP.out _ (HS.out.below K1.out)).mono ?_
              rintro e w2 ⟨rfl, k⟩
              have K2 := hide (below_more K1.out (Nat.le_refl _) k)
              clear k
              go_wp2_with fail
              refine (XM.out _).mono ?_
              rintro e w3 ⟨rfl, k⟩
              have K3 := hide (below_more K2.out (Nat.le_refl _) k)
              clear k
              go_wp2_with fail
              rw [G3.out, G2.out]
              refine (X2.out _ (HS.out.below K3.out)).mono ?_
              rintro e w4 ⟨rfl, k⟩
              have K4 := hide (below_more K3.out (Nat.le_refl _) k)
              clear k
              go_wp2_with fail
              rw [G3.out]
              refine (X3.out _ (HS.out.below K4.out)).mono ?_
              rintro e w5 ⟨rfl, k⟩
              have K5 := hide (below_more K4.out (Nat.le_refl _) k)
              clear k
              go_wp2_with fail
              refine (heads_any _ (HS.out.below K5.out)).mono ?_
              rintro e w9 ⟨rfl, h9⟩
              have H9 := hide (below_more K5.out (Nat.le_refl _) h9)
              clear h9
              go_wp2_with fail
              go_ret
              exact ⟨rfl, H9.out⟩
            | true =>
              go_wp2_with fail
              refine (XW.out _ (HS.out.below K0.out)).mono ?_
              rintro e w1 ⟨rfl, k⟩
              have K1 := hide (below_more K0.out (Nat.le_refl _) k)
              clear k
              go_wp2_with fail
              rw [G1.out, G2.out]
              refine (XP.out _ (HS.out.below K1.out)).mono ?_
              rintro e w2 ⟨rfl, k⟩
              have K2 := hide (below_more K1.out (Nat.le_refl _) k)
              clear k
              go_wp2_with fail
              refine (XM.out _).mono ?_
              rintro e w3 ⟨rfl, k⟩
              have K3 := hide (below_more K2.out (Nat.le_refl _) k)
              clear k
              go_wp2_with fail
              rw [G3.out, G2.out]
              refine (X2.out _ (HS.out.below K3.out)).mono ?_
              rintro e w4 ⟨rfl, k⟩
              have K4 := hide (below_more K3.out (Nat.le_refl _) k)
              clear k
              go_wp2_with fail
              rw [G3.out]
              refine (X3.out _ (HS.out.below K4.out)).mono ?_
              rintro e w5 ⟨rfl, k⟩
              have K5 := hide (below_more K4.out (Nat.le_refl _) k)
              clear k
              go_wp2_with fail
              refine (heads_any _ (HS.out.below K5.out)).mono ?_
              rintro e w9 ⟨rfl, h9⟩
              have H9 := hide (below_more K5.out (Nat.le_refl _) h9)
              clear h9
              go_wp2_with fail
              go_ret
              exact ⟨rfl, H9.out⟩
theorem parts_b (a0 a1 a2 a3 : ByteArray) (w : World) (hS : Std w) : Calls Tryd.prog 5 #[.string a0, .string a1, .string a2, .string a3] w fun e w' => e = .returned (.bool true) ∧ Below w.heap.size w w' := by
  obtain ⟨l, rfl⟩ := bs_of a0
  obtain ⟨m, rfl⟩ := bs_of a1
  obtain ⟨n, rfl⟩ := bs_of a2
  obtain ⟨k, rfl⟩ := bs_of a3
  exact parts_law l m n k w hS
end Go.Proofs.YteclcjpbebimeaaDoor
