/- The law ShaShort. -/
import Derived.Test.YtelfdgliogaleaaDoorLawC
import Derived.Test.YtelfdgliogaleaaDoorRput
namespace Go.Proofs.YtelfdgliogaleaaDoor
open Go.RowKit
set_option linter.unusedVariables false
set_option maxRecDepth 10000 in
set_option maxHeartbeats 4000000 in
theorem short_law (A : Option Addr) (n c : Nat) (b : List UInt8) (w : World) (hb : Rd w A n b) (hc : n ≤ c) (hT : Tabs w) (hc2 : c ≤ maxLen) :
    Calls Tryd.prog 6 #[.slice A n c] w fun e w' => e = .returned (.bool true) ∧ Below w.heap.size w w' := by
  obtain ⟨i0, hi, hz0, hz1, hz2⟩ := info_parts info5
  unfold maxLen at hc2
  have HT := hide hT
  have HB := hide hb
  have HL := hide hb.len
  clear hT hb
  by_cases hn : 1000 < n
  · have hn1 : (1000 : Int) < (n : Int) := by omega
    have hn2 : (55 : Int) < (n : Int) := by omega
    go_enter Tryd.func6, Tryd.ntmps6
    go_wp2_with fail
    go_ret
    exact ⟨rfl, Below.refl _ _⟩
  have hn1 : ¬ (1000 : Int) < (n : Int) := by omega
  by_cases hs : 55 < n
  · have hn2 : (55 : Int) < (n : Int) := by omega
    go_enter Tryd.func6, Tryd.ntmps6
    go_wp2_with fail
    refine (sumc_any A n c b _ HB.out hc (by omega) HT.out.1 HT.out.2.1 HT.out.2.2).mono ?_
    rintro e w1 ⟨A1, c1, rfl, ho1, hb1⟩
    have HB1 := hide hb1
    clear ho1 hb1
    go_wp2_with fail
    refine (heads_any _ (HT.out.below HB1.out)).mono ?_
    rintro e w2 ⟨rfl, h2⟩
    have HB2 := hide (below_more HB1.out (Nat.le_refl _) h2)
    clear h2
    go_wp2_with fail
    go_ret
    exact ⟨rfl, HB2.out⟩
  have hs1 : ¬ (55 : Int) < (n : Int) := by omega
  go_enter Tryd.func6, Tryd.ntmps6
  go_wp2_with fail
  refine (start_any _ HT.out.1 HT.out.2.2).mono ?_
  rintro e w1 ⟨v, rfl, g1, rfl, hg1, hs1', hb1⟩
  have HB1 := hide hb1
  have HS1 := hide hs1'
  clear hs1' hb1
  go_wp2_with fail
  refine (pad_any A n c b _ (HB.out.below HB1.out |>.more HB1.out.size) (by omega)).mono ?_
  rintro e w2 ⟨A2, n2, c2, rfl, hc2', ho2, hb2⟩
  have hn2 : n2 = 64 := by
    have h := ho2.1
    rw [bv_length, padL_length, HL.out] at h
    unfold blocksN at h
    omega
  subst hn2
  have HO2 := hide ho2
  have HB2 := hide (below_more HB1.out (Nat.le_refl _) hb2)
  have HS2 := hide (HS1.out.below hb2 HS1.out.lt)
  have hT2 := HT.out.below HB2.out
  have hr2 : Reads w2 w2.heap.size 1 (some ⟨g1, 0, none⟩) 8 (wv firstS.list) := by
    refine ⟨rfl, fun _ => ⟨_, rfl, HS2.out.lt, fun j u hu => ?_⟩⟩
    rw [at_add, Nat.zero_add, HS2.out.cell j, ← hu]
    simp
  have hT2' := hide hT2
  have HR2 := hide hr2
  clear ho2 hb2 hT2 hr2
  go_wp2_with fail
  refine (block_yes (some ⟨g1, 0, none⟩) A2 8 c2 firstS.list (padL b) _ HR2.out firstS_ok (Reads.of_own HO2.out) (by omega) hc2' hT2'.out.2.1 hT2'.out.2.2).mono ?_
  rintro e w3 ⟨v3, rfl, g3, rfl, hg3, hs3, hb3⟩
  rw [show St.of firstS.list = firstS from rfl] at hs3
  obtain ⟨S, hS⟩ : ∃ S, comp firstS (padL b) = S := ⟨_, rfl⟩
  have hok : S.ok := by rw [← hS]; exact comp_ok _ _
  rw [hS] at hs3
  have HSE : Hid (sumL b = stateBytes S) := hide (by rw [← hS]; exact sum_short b (by rw [HL.out]; omega))
  have HS3 := hide hs3
  have HOK := hide hok
  have HB3 := hide (below_more HB2.out (Nat.le_refl _) hb3)
  clear hs3 hS hok hb3 hT2' HR2 HO2 HS2 HS1
  go_wp2_with fail
  go_loopw [5, 6] (fun u5 u6 wx => ∃ (k : Nat) (A : Option Addr) (c : Nat), k ≤ 8 ∧ u6 = .int .i64 k ∧ u5 = .slice A (4 * k) c ∧ wx.ownsRow w3.heap.size 5 1 (.slice A (4 * k) c) (4 * k) (bv ((S.list.take k).flatMap fun x => be 4 x)) ∧ Below w3.heap.size w3 wx) (fun _ i _ => 8 - (intOf i).toNat)
  case atStart => exact ⟨0, none, 0, Nat.zero_le _, rfl, rfl, World.ownsRow_nil _ _ _ _, Below.refl _ _⟩
  case round =>
    obtain ⟨k, A3, c3, hk8, rfl, rfl, ho, hbe⟩ := hrel
    have HO := hide ho
    have HBX := hide hbe
    have hszw := hbe.size
    clear ho hbe
    by_cases hlt : k < 8
    · obtain ⟨x, hx⟩ : ∃ x, S.list[k]? = some x := ⟨_, List.getElem?_eq_getElem (by simp [St.list]; omega)⟩
      have hxl : x < 4294967296 := HOK.out x (List.mem_of_getElem? hx)
      have hcx : wr.cell? ⟨g3, k, none⟩ = some (.int .u32 x) := cellW (HS3.out.below HBX.out HS3.out.lt) hx
      have e1 : IntKind.u64.wrap (x : Int) = (x : Int) := by simp [IntKind.wrap, IntKind.bits, IntKind.signed]; omega
      have htk : (S.list.take (k + 1)).flatMap (fun x => be 4 x) = (S.list.take k).flatMap (fun x => be 4 x) ++ be 4 x := by
        obtain ⟨hkl, hkx⟩ := List.getElem?_eq_some_iff.1 hx
        rw [List.take_succ_eq_append_getElem hkl, hkx]
        simp
      have HTK := hide htk
      clear hx htk
      go_wp2_with fail
      refine (rput_yes x 4 _ (by omega) (by omega) (by omega)).mono ?_
      rintro e w5 ⟨v5, rfl, ho5, hb5⟩
      obtain ⟨A5, c5, rfl⟩ := own_slice ho5
      have HR5 := hide (Reads.of_own ho5)
      have HO' := hide (own_below HO.out hb5)
      have HB5 := hide (below_more HBX.out (Nat.le_refl _) hb5)
      have hsz5 := hb5.size
      clear ho5 hb5 hcx
      go_wp2_with (at_builtin; (refine wpList_append_any _ rfl (.tmp 40) (.tmp 46) 22 rfl w3.heap.size 5 i0 _ 1 1 Tryd.underlying22 hi hz0 hz1 hz2 rfl (by omega) (.slice A3 (4 * k) c3) (4 * k) _ rfl HO'.out w5.heap.size A5 4 c5 (bv (be 4 x)) rfl HR5.out (bv_one _) ?a1 ?a2 ?a3 ?_))
      case a1 => unfold maxLen; omega
      case a2 => omega
      case a3 => have := HB5.out.size; omega
      intro v6 w6 hown1 hg1' hat1
      obtain ⟨A6, c6, rfl⟩ := own_slice hown1
      have HO6 := hide hown1
      have HB6 := hide (Below.grown (h := HB5.out) (hg := hg1') HB5.out.size (fun g hg => (World.ownsRow.lt HO'.out g hg).1))
      clear hown1 hg1' hat1
      go_wp2_with fail
      clear e1
      go_roundw
      case rel =>
        refine ⟨k + 1, A6, c6, by omega, by go_num, by rw [show 4 * k + 4 = 4 * (k + 1) by omega], ?_, HB6.out⟩
        have h := HO6.out
        rw [← bv_append, ← HTK.out, show 4 * k + 4 = 4 * (k + 1) by omega] at h
        exact h
      case measure => simp [intOf]; omega
    · obtain rfl : k = 8 := by omega
      clear hk8 hlt
      have HO8 : Hid (wr.ownsRow w3.heap.size 5 1 (.slice A3 32 c3) 32 (bv (sumL b))) := hide (by rw [HSE.out]; exact HO.out)
      have HB8 := hide (below_more HB3.out (Nat.le_refl _) HBX.out)
      have hT8 := hide (HT.out.below HB8.out)
      go_wp2_with fail
      refine (sumc_any A n c b _ (HB.out.below HB8.out |>.more HB8.out.size) hc (by omega) hT8.out.1 hT8.out.2.1 hT8.out.2.2).mono ?_
      rintro e w9 ⟨A9, c9, rfl, ho9, hb9⟩
      have HO9 := hide ho9
      have HO8' := hide (own_below HO8.out hb9)
      have HB9 := hide (below_more HB8.out (Nat.le_refl _) hb9)
      clear ho9 hb9
      go_wp2_with fail
      refine (same_any A9 A3 32 32 c9 c3 (sumL b) (sumL b) _ _ _ (Reads.of_own HO9.out) (Reads.of_own HO8'.out)).mono ?_
      rintro e w10 ⟨rfl, rfl⟩
      rw [show (sumL b == sumL b) = true from beq_self_eq_true (sumL b)]
      go_wp2_with fail
      refine (heads_any _ (HT.out.below HB9.out)).mono ?_
      rintro e w11 ⟨rfl, h11⟩
      have HB11 := hide (below_more HB9.out (Nat.le_refl _) h11)
      clear h11
      go_wp2_with fail
      go_ret
      exact ⟨rfl, HB11.out⟩
end Go.Proofs.YtelfdgliogaleaaDoor
