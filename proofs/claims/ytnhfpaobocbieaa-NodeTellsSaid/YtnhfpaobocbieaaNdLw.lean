/- The law NodeWhere. -/
import Derived.Test.YtnhfpaobocbieaaNdTc
namespace Go.Proofs.Ytnhfpaobocbieaa
open Go.RowKit
set_option linter.unusedVariables false
theorem tmod2 {m : Int} (h0 : 0 ≤ m) : m.tmod 2 = m % 2 := Int.tmod_eq_emod_of_nonneg h0
theorem small_where {l : List DV} (hB : FewB l) (h : checkB (nds l) = true) {m : Int} (hw : (whereP (nds l) m).2 = true) : (whereP (nds l) m).1.length ≤ 100000 := by
  have := where_all h m
  rw [hw] at this
  exact small_all hB h (List.contains_iff_mem.1 this)
set_option maxRecDepth 100000 in
set_option maxHeartbeats 16000000 in
theorem lawwhere_any (L : Option Addr) (n c : Nat) (l : List DV) (m0 : Int) (w : World) (hF : FsR w w.heap.size L n l) (hn : n ≤ maxLen) :
    Calls Try.prog 4 #[.agg #[.slice L n c], .int .i64 m0] w fun e w' => e = .returned (.bool true) ∧ Below w.heap.size w w' := by
  have hl := hF.len
  have hln : (nds l).length = n := by rw [nds_length, hl]
  obtain ⟨W1, hW1⟩ : ∃ W, w.alloc (.cells #[.slice L n c] 24) = W := ⟨_, rfl⟩
  have b1 : Below w.heap.size w W1 := by rw [← hW1]; exact on_alloc _ _
  have k1 : Blk W1 w.heap.size 24 #[.slice L n c] := by rw [← hW1]; exact Blk.new w _ _
  have XF := hide (few_any L n c l W1 ((hF.below b1).more b1.size) hn)
  have HFS := hide (fun (V : World) (hV : Below w.heap.size w V) => (hF.below hV).more hV.size)
  have HLN := hide hln
  have HL := hide hl
  have HK := hide k1
  have HB := hide b1
  have k0 := one_ k1
  have kl := k1.lt
  clear hF hn hl hln b1 k1
  go_enter Try.func4, Try.ntmps4
  go_wp2_with fail
  refine XF.out.mono ?_
  rintro e w2 ⟨f, rfl, hf, hb⟩
  have HK := hide (HK.out.below hb HK.out.lt)
  have HB := hide (HB.out.trans (hb.mono HB.out.size))
  clear hb XF k0 kl hW1
  have k0 := one_ HK.out
  have kl := HK.out.lt
  cases f with
  | false =>
    clear hf
    go_wp2_with fail
    refine (heads_any w2).mono ?_
    rintro e wz ⟨rfl, hb⟩
    have HB := hide (HB.out.trans (hb.mono HB.out.size))
    clear hb
    go_wp2_with fail
    go_ret
    exact ⟨rfl, HB.out⟩
  | true =>
    have HFEW := hide (hf rfl)
    clear hf
    have XC := hide (check_any L n c l w2 (HFS.out _ HB.out) HFEW.out)
    go_wp2_with fail
    refine XC.out.mono ?_
    rintro e w3 ⟨rfl, hb⟩
    have HK := hide (HK.out.below hb HK.out.lt)
    have HB := hide (HB.out.trans (hb.mono HB.out.size))
    clear hb XC k0 kl
    have k0 := one_ HK.out
    have kl := HK.out.lt
    cases hck : checkB (nds l) with
    | false =>
      clear hck
      go_wp2_with fail
      refine (heads_any w3).mono ?_
      rintro e wz ⟨rfl, hb⟩
      have HB := hide (HB.out.trans (hb.mono HB.out.size))
      clear hb
      go_wp2_with fail
      go_ret
      exact ⟨rfl, HB.out⟩
    | true =>
      have HCK := hide hck
      clear hck
      by_cases hm0 : m0 < 0
      · go_wp2_with fail
        refine (heads_any w3).mono ?_
        rintro e wz ⟨rfl, hb⟩
        have HB := hide (HB.out.trans (hb.mono HB.out.size))
        clear hb
        go_wp2_with fail
        go_ret
        exact ⟨rfl, HB.out⟩
      by_cases hm1 : (n : Int) ≤ m0
      · go_wp2_with fail
        refine (heads_any w3).mono ?_
        rintro e wz ⟨rfl, hb⟩
        have HB := hide (HB.out.trans (hb.mono HB.out.size))
        clear hb
        go_wp2_with fail
        go_ret
        exact ⟨rfl, HB.out⟩
      obtain ⟨m, hm⟩ : ∃ m : Nat, m0 = (m : Int) := ⟨m0.toNat, by omega⟩
      subst hm
      have hmn : m < n := by omega
      have hn60 : n ≤ 60 := by have := HFEW.out.n; have := HL.out; omega
      go_wp2_with fail
      go_loopw [5] (fun u5 wx => ∃ i : Nat, i ≤ n ∧ u5 = .int .i64 (i : Int) ∧ Hid (∀ j : Nat, j < i → (ndAt (nds l) (j : Int)).kind = 2 → (ndAt (nds l) (j : Int)).mode % 2 = 1) ∧ Hid (w3 = wx)) (fun i _ => n - (intOf i).toNat)
      case atStart => exact ⟨0, Nat.zero_le _, rfl, hide (fun j hj => absurd hj (by omega)), hide (by trivial)⟩
      case round =>
        obtain ⟨i, hi, rfl, HO, HW⟩ := hrel
        obtain rfl := HW.out
        by_cases hin : i < n
        · have hlt : (i : Int) < (n : Int) := by omega
          obtain ⟨g, o, x, hL, hg, hx, hok, hc⟩ := (HFS.out _ HB.out).at_ hin
          subst hL
          have i1 := fun W => nd_at g o n c i (i : Int) rfl hin W
          obtain ⟨d0, d1, d2, d3, d4, d5⟩ := hc
          have hmd := mode_of HCK.out (n := x.r) (by unfold nds; exact List.mem_map.2 ⟨x, List.mem_of_getElem? hx, rfl⟩)
          have HXR : Hid (ndAt (nds l) (i : Int) = x.r) := hide (nds_at hx)
          clear hx hok d2 d3 d4 d5
          by_cases hk2 : x.r.kind = 2
          · have hkb : (x.r.kind == 2) = true := by rw [hk2]; rfl
            by_cases ho2 : x.r.mode % 2 = 1
            · have ht : x.r.mode.tmod 2 = 1 := by rw [tmod2 hmd.1, ho2]
              have HO2 : Hid (∀ j : Nat, j < i + 1 → (ndAt (nds l) (j : Int)).kind = 2 → (ndAt (nds l) (j : Int)).mode % 2 = 1) := hide (fun j hj hjk => by
                rcases Nat.lt_or_ge j i with h | h
                · exact HO.out j h hjk
                · obtain rfl : j = i := by omega
                  rw [HXR.out]; exact ho2)
              clear hk2 ho2 hmd
              go_wp2_with fail
              go_roundw
              case rel => exact ⟨i + 1, by omega, by go_num, HO2, hide (by trivial)⟩
              case measure => simp [intOf]; omega
            · have ht : x.r.mode.tmod 2 = 0 := by rw [tmod2 hmd.1]; omega
              clear hk2 ho2 hmd
              go_wp2_with fail
              refine (heads_any w3).mono ?_
              rintro e wz ⟨rfl, hb⟩
              have HB := hide (HB.out.trans (hb.mono HB.out.size))
              clear hb
              go_wp2_with fail
              go_ret
              exact ⟨rfl, HB.out⟩
          · have hkb : (x.r.kind == 2) = false := beq_eq_false_iff_ne.2 hk2
            have HO2 : Hid (∀ j : Nat, j < i + 1 → (ndAt (nds l) (j : Int)).kind = 2 → (ndAt (nds l) (j : Int)).mode % 2 = 1) := hide (fun j hj hjk => by
              rcases Nat.lt_or_ge j i with h | h
              · exact HO.out j h hjk
              · obtain rfl : j = i := by omega
                rw [HXR.out] at hjk
                exact absurd hjk hk2)
            clear hk2 hmd
            go_wp2_with fail
            go_roundw
            case rel => exact ⟨i + 1, by omega, by go_num, HO2, hide (by trivial)⟩
            case measure => simp [intOf]; omega
        · have hlt : ¬ (i : Int) < (n : Int) := by omega
          obtain rfl : n = i := by omega
          have HODD : Hid (AllOdd (nds l)) := hide (fun j hj hk => HO.out j (by rw [HLN.out] at hj; exact hj) hk)
          have XW := hide (where_any L n c l (m : Int) w3 (HFS.out _ HB.out) HFEW.out)
          have HWK := hide (where_ok HCK.out (m := m) (by rw [HLN.out]; exact hmn))
          have HWF := hide (fun hw => where_facts (m := m) HCK.out HODD.out hw)
          have HSW := hide (fun hw => small_where (m := (m : Int)) HFEW.out HCK.out hw)
          obtain ⟨T, hT⟩ : ∃ T, (whereP (nds l) (m : Int)).1 = T := ⟨_, rfl⟩
          obtain ⟨b, hb0⟩ : ∃ b, (whereP (nds l) (m : Int)).2 = b := ⟨_, rfl⟩
          rw [hT, hb0] at XW HWF
          rw [hb0] at HWK HSW
          rw [hT] at HSW
          clear hT hb0 HO
          go_wp2_with fail
          with_reducible refine XW.out.mono ?_
          rintro e w4 ⟨rfl, hb⟩
          have HK := hide (HK.out.below hb HK.out.lt)
          have HB := hide (HB.out.trans (hb.mono HB.out.size))
          clear hb XW k0 kl
          have k0 := one_ HK.out
          have kl := HK.out.lt
          obtain ⟨g, o, x, hL, hg, hx, hok, hc⟩ := (HFS.out _ HB.out).at_ hmn
          subst hL
          have i1 := fun W => nd_at g o n c m (m : Int) rfl hmn W
          obtain ⟨d0, d1, d2, d3, d4, d5⟩ := hc
          have HLK : Hid (b = decide (0 < x.r.links)) := hide (by rw [HWK.out, nds_at hx])
          clear hx hok d0 d1 d3 d4 d5 HWK
          by_cases hlk : 0 < x.r.links
          · obtain rfl : b = true := by rw [HLK.out]; exact decide_eq_true hlk
            have hlkb : decide (0 < x.r.links) = true := decide_eq_true hlk
            have XP := hide (rparts_any T w4 (HSW.out rfl))
            have HWH := hide (HWF.out rfl)
            have HTL := hide (HSW.out rfl)
            have hple := parts_le T
            have HPL := hide (show (parts T).length ≤ 1000000 by have := HTL.out; omega)
            clear hple
            obtain ⟨ps, hps⟩ : ∃ ps, parts T = ps := ⟨_, rfl⟩
            rw [hps] at XP HWH HPL
            clear hps HWF HSW HLK
            go_wp2_with fail
            with_reducible refine XP.out.mono ?_
            rintro e w5 ⟨A, np, cp, rfl, ho, hb⟩
            have hnp := ho.len
            have HNP := hide hnp
            have HR5 := hide ho.rd
            have hnpb : np ≤ 1000000 := by have := HPL.out; omega
            have HK := hide (HK.out.below hb HK.out.lt)
            have HB := hide (HB.out.trans (hb.mono HB.out.size))
            clear hb XP k0 kl ho hnp hlk hlkb d2 i1
            have k0 := one_ HK.out
            have kl := HK.out.lt
            go_wp2_with fail
            go_loopw [9, 10] (fun u9 u10 wx => ∃ i : Nat, i ≤ np ∧ u9 = .int .i64 (goTo (nds l) (ps.take i)) ∧ u10 = .int .i64 (i : Int) ∧ Hid (Below w5.heap.size w5 wx)) (fun _ i _ => np - (intOf i).toNat)
            case atStart => exact ⟨0, Nat.zero_le _, rfl, rfl, hide (Below.refl _ _)⟩
            case round =>
              obtain ⟨i, hi, rfl, rfl, HW⟩ := hrel
              have HW2 := hide (HB.out.trans (HW.out.mono HB.out.size))
              have HKj := hide (HK.out.below HW.out HK.out.lt)
              clear k0 kl
              have k0 := one_ HKj.out
              have kl := HKj.out.lt
              by_cases hin : i < np
              · have hlt2 : (i : Int) < (np : Int) := by omega
                obtain ⟨s, hs⟩ : ∃ s, ps[i]? = some s := ⟨_, List.getElem?_eq_getElem (by have := HNP.out; omega)⟩
                obtain ⟨l1, l2, l3, l4⟩ := HWH.out.go i s hs
                have HLAST := hide (fun hh => HWH.out.last i s hs hh)
                obtain ⟨a, ha⟩ : ∃ a, goTo (nds l) (ps.take i) = a := ⟨_, rfl⟩
                obtain ⟨z, hz⟩ : ∃ a, goTo (nds l) (ps.take (i + 1)) = a := ⟨_, rfl⟩
                rw [ha] at l1 l2 l3 l4 HLAST ⊢
                rw [hz] at l4
                have HZ := hide hz
                have XL := hide (fun (V : World) (hV : Below w.heap.size w V) => look_any (some ⟨g, o, none⟩) n c l a s V (HFS.out _ hV) HFEW.out)
                rw [l4] at XL
                rw [HLN.out] at l2
                obtain ⟨q, hq⟩ : ∃ q : Nat, a = (q : Int) := ⟨a.toNat, by omega⟩
                obtain ⟨g', o', x', hL, hg', hx', hok', hc'⟩ := (HFS.out _ HW2.out).at_ (show q < n by omega)
                injection hL with hL
                injection hL with e1 e2
                subst e1; subst e2
                have i1 := fun W => nd_at g o n c q a hq (by omega) W
                have hkd : x'.r.kind = 2 := by
                  unfold isDir at l3
                  rw [hq, nds_at hx'] at l3
                  simpa using l3
                have d0 := hc'.1
                rw [hkd] at d0
                obtain ⟨g1, o1, hA1, hg1, hc1⟩ := row_cell (HR5.out.below HW.out) hs
                subst hA1
                have hix : (0 : Int) ≤ (i : Int) := by omega
                have HS := hide hs
                clear hs l1 l2 l3 l4 ha hz hq hx' hok' hc' hkd
                go_wp2_with fail
                clear d0 i1
                refine wp_region_K (fun V' => V'.cell? ⟨w.heap.size, 0, none⟩ = some (.slice (some ⟨g, o, none⟩) n c) ∧ V'.cell? ⟨g1, o1 + i, none⟩ = some (.string ⟨s.toArray⟩)) [] rfl ⟨k0, hc1⟩ (fun hHeld => ?_)
                refine wpAnyK_take (i := 0) (v := ?_) rfl rfl (by kernel_rfl) (fun _ _ _ h => h) (Or.inl ⟨by rfl, ?_⟩) (by assumption) ?_
                rotate_left
                · (intro V hV; (try dsimp only at hV); go_simp; with_reducible rfl)
                try simp only [Act.put, List.setIfInBounds_toArray, List.set_cons_zero, List.set_cons_succ]
                refine wpAnyK_take (i := 1) (v := ?_) rfl rfl (by kernel_rfl) (fun _ _ _ h => h) (Or.inl ⟨by rfl, ?_⟩) (by assumption) ?_
                rotate_left
                · (intro V hV; (try dsimp only at hV); go_simp; with_reducible rfl)
                try simp only [Act.put, List.setIfInBounds_toArray, List.set_cons_zero, List.set_cons_succ]
                refine wpAnyK_take (i := 2) (v := ?_) rfl rfl (by kernel_rfl) (fun _ _ _ h => h) (Or.inl ⟨by rfl, ?_⟩) (by assumption) ?_
                rotate_left
                · (intro V hV; (try dsimp only at hV); go_simp; with_reducible rfl)
                try simp only [Act.put, List.setIfInBounds_toArray, List.set_cons_zero, List.set_cons_succ]
                refine wpAnyK_take (i := 3) (v := ?_) rfl rfl (by kernel_rfl) (fun _ _ _ h => h) (Or.inl ⟨by rfl, ?_⟩) (by assumption) ?_
                rotate_left
                · (intro V hV; (try dsimp only at hV); go_simp; with_reducible rfl)
                try simp only [Act.put, List.setIfInBounds_toArray, List.set_cons_zero, List.set_cons_succ]
                refine wpAnyK_take (i := 4) (v := ?_) rfl rfl (by kernel_rfl) (fun _ _ _ h => h) (Or.inl ⟨by rfl, ?_⟩) (by assumption) ?_
                rotate_left
                · (intro V hV; (try dsimp only at hV); go_simp; with_reducible rfl)
                try simp only [Act.put, List.setIfInBounds_toArray, List.set_cons_zero, List.set_cons_succ]
                refine wpAnyK_take (i := 5) (v := ?_) rfl rfl (by kernel_rfl) (fun _ _ _ h => h) (Or.inl ⟨by rfl, ?_⟩) (by assumption) ?_
                rotate_left
                · (intro V hV; (try dsimp only at hV); go_simp; with_reducible rfl)
                try simp only [Act.put, List.setIfInBounds_toArray, List.set_cons_zero, List.set_cons_succ]
                refine wpAnyK_step (i := 6) (by kernel_rfl) rfl rfl (fun K hK => ?_)
                go_simp
                have hbd : Below w.heap.size w wr.drew := bl_drewN (n := 1) HW2.out
                with_reducible refine (XL.out _ hbd).mono ?_
                rintro e w6 ⟨rfl, hb⟩
                have hb6 : Below w5.heap.size w5 w6 := (bl_drewN (n := 1) HW.out).trans (hb.mono HW.out.size)
                have HW6 := hide hb6
                have HB6 := hide (HB.out.trans (hb6.mono HB.out.size))
                have HK6 := hide (HK.out.below hb6 HK.out.lt)
                obtain ⟨g2, o2, hA2, hg2, hc2⟩ := row_cell (HR5.out.below hb6) HS.out
                injection hA2 with hA2
                injection hA2 with e1 e2
                subst e1; subst e2
                have k6 := one_ HK6.out
                have kl6 := HK6.out.lt
                refine hK.out _ _ (fun _ _ => ⟨k6, hc2⟩) ?_
                clear hK K hb hb6 hbd XL hHeld k0 kl hc1
                have hHeld : (fun V' : World => V'.cell? ⟨w.heap.size, 0, none⟩ = some (.slice (some ⟨g, o, none⟩) n c) ∧ V'.cell? ⟨g1, o1 + i, none⟩ = some (.string ⟨s.toArray⟩)) w6 := ⟨k6, hc2⟩
                simp only [List.setIfInBounds_toArray]
                refine wpAnyK_take (i := 7) (v := ?_) rfl rfl (by kernel_rfl) (fun _ _ _ h => h) (Or.inl ⟨by rfl, ?_⟩) (by assumption) ?_
                rotate_left
                · (intro V hV; (try dsimp only at hV); go_simp; with_reducible rfl)
                try simp only [Act.put, List.setIfInBounds_toArray, List.set_cons_zero, List.set_cons_succ]
                refine wpAnyK_take (i := 8) (v := ?_) rfl rfl (by kernel_rfl) (fun _ _ _ h => h) (Or.inl ⟨by rfl, ?_⟩) (by assumption) ?_
                rotate_left
                · (intro V hV; (try dsimp only at hV); go_simp; with_reducible rfl)
                try simp only [Act.put, List.setIfInBounds_toArray, List.set_cons_zero, List.set_cons_succ]
                refine wpAnyK_take (i := 9) (v := ?_) rfl rfl (by kernel_rfl) (fun _ _ _ h => h) (Or.inl ⟨by rfl, ?_⟩) (by assumption) ?_
                rotate_left
                · (intro V hV; (try dsimp only at hV); go_simp; with_reducible rfl)
                try simp only [Act.put, List.setIfInBounds_toArray, List.set_cons_zero, List.set_cons_succ]
                refine wpAnyK_take (i := 10) (v := ?_) rfl rfl (by kernel_rfl) (fun _ _ _ h => h) (Or.inl ⟨by rfl, ?_⟩) (by assumption) ?_
                rotate_left
                · (intro V hV; (try dsimp only at hV); go_simp; with_reducible rfl)
                try simp only [Act.put, List.setIfInBounds_toArray, List.set_cons_zero, List.set_cons_succ]
                refine wpAnyK_take (i := 11) (v := ?_) rfl rfl (by kernel_rfl) (fun _ _ _ h => h) (Or.inl ⟨by rfl, ?_⟩) (by assumption) ?_
                rotate_left
                · (intro V hV; (try dsimp only at hV); go_simp; with_reducible rfl)
                try simp only [Act.put, List.setIfInBounds_toArray, List.set_cons_zero, List.set_cons_succ]
                refine wpAnyK_done (by kernel_rfl) ?_ _
                (try simp only [Exit.then])
                clear hHeld
                have kw : IntKind.i64.wrap ((np : Int) - 1) = (np : Int) - 1 := by simp [IntKind.wrap, IntKind.bits, IntKind.signed]; omega
                by_cases hlast : i + 1 = np
                · have hle : ((i : Int) == (np : Int) - 1) = true := beq_iff_eq.2 (by omega)
                  have XPA := hide (parent_any (some ⟨g, o, none⟩) n c l (m : Int) w6 (HFS.out _ HB6.out) HFEW.out)
                  rw [HLAST.out (by have := HNP.out; omega)] at XPA
                  dsimp only at XPA
                  clear hlast
                  go_wp2_with fail
                  with_reducible refine XPA.out.mono ?_
                  rintro e w7 ⟨rfl, hb⟩
                  have hb7 : Below w5.heap.size w5 w7 := HW6.out.trans (hb.mono HW6.out.size)
                  have HW7 := hide hb7
                  obtain ⟨g3, o3, hA3, hg3, hc3⟩ := row_cell (HR5.out.below hb7) HS.out
                  injection hA3 with hA3
                  injection hA3 with e1 e2
                  subst e1; subst e2
                  have haa : (a != a) = false := by simp
                  have hss : (s != s) = false := by simp
                  clear hb hb7 XPA k6 kl6 hc2 hle
                  go_wp2_with fail
                  go_roundw
                  case rel => exact ⟨i + 1, by omega, by rw [HZ.out], by go_num, HW7⟩
                  case measure => simp [intOf]; omega
                · have hle : ((i : Int) == (np : Int) - 1) = false := beq_eq_false_iff_ne.2 (by omega)
                  clear hlast
                  go_wp2_with fail
                  go_roundw
                  case rel => exact ⟨i + 1, by omega, by rw [HZ.out], by go_num, HW6⟩
                  case measure => simp [intOf]; omega
              · have hlt2 : ¬ (i : Int) < (np : Int) := by omega
                have hend : goTo (nds l) (ps.take i) = (m : Int) := by rw [List.take_of_length_le (by have := HNP.out; omega)]; exact HWH.out.ends
                rw [hend]
                have hmm : ((m : Int) == (m : Int)) = true := by simp
                have htt : (T == T) = true := by simp
                have XCL := hide (fun V => rclean_any T V HTL.out)
                rw [HWH.out.cl] at XCL
                clear hend
                go_wp2_with fail
                with_reducible refine (XCL.out _).mono ?_
                rintro e w6 ⟨rfl, hb⟩
                have HB := hide (HW2.out.trans (hb.mono HW2.out.size))
                clear hb XCL
                go_wp2_with fail
                refine (heads_any w6).mono ?_
                rintro e wz ⟨rfl, hb⟩
                have HB := hide (HB.out.trans (hb.mono HB.out.size))
                clear hb
                go_wp2_with fail
                go_ret
                exact ⟨rfl, HB.out⟩
          · obtain rfl : b = false := by rw [HLK.out]; exact decide_eq_false hlk
            have hlkb : decide (0 < x.r.links) = false := decide_eq_false hlk
            clear HWF HSW HLK
            go_wp2_with fail
            refine (heads_any w4).mono ?_
            rintro e wz ⟨rfl, hb⟩
            have HB := hide (HB.out.trans (hb.mono HB.out.size))
            clear hb
            go_wp2_with fail
            go_ret
            exact ⟨rfl, HB.out⟩
end Go.Proofs.Ytnhfpaobocbieaa
