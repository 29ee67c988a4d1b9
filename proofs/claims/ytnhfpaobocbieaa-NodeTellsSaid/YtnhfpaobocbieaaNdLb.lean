/- The law NodeAll. -/
import Derived.Test.YtnhfpaobocbieaaNdTb
namespace Go.Proofs.Ytnhfpaobocbieaa
open Go.RowKit
set_option linter.unusedVariables false
theorem upto_all {l : List DV} {n : Nat} (hl : l.length = n) : upto l n = (allNames (nds l)).length := by
  unfold upto
  rw [List.take_of_length_le (by omega), allNames_length]
  unfold nds
  rw [List.map_map]
  rfl
theorem upto_le {l : List DV} (hB : FewB l) (i : Nat) : upto l i ≤ 200 := by
  have h := hB.all
  unfold upto at h ⊢
  rw [List.take_length] at h
  have : ((l.take i).map fun x => x.r.names.length).sum ≤ (l.map fun x => x.r.names.length).sum := by
    conv => rhs; rw [← List.take_append_drop i l]
    rw [List.map_append, List.sum_append]
    omega
  omega
/-- Is a text one of the first k? -/
def inT (ks : List Bs) (k : Nat) (s : Bs) : Bool := (ks.take k).contains s
theorem inT_zero (ks : List Bs) (s : Bs) : inT ks 0 s = false := rfl
theorem inT_succ {ks : List Bs} {k : Nat} {x : Bs} (h : ks[k]? = some x) (s : Bs) : inT ks (k + 1) s = (inT ks k s || (x == s)) := by
  obtain ⟨h1, h2⟩ := List.getElem?_eq_some_iff.1 h
  unfold inT
  rw [List.take_succ_eq_append_getElem h1, h2, List.contains_append]
  have : [x].contains s = (x == s) := by
    by_cases e : x = s
    · subst e; simp
    · have h3 : (x == s) = false := beq_eq_false_iff_ne.2 e
      have h4 : (s == x) = false := beq_eq_false_iff_ne.2 fun h => e h.symm
      rw [List.contains_cons, h3, h4]
      rfl
  rw [this]
theorem inT_all (ks : List Bs) (k : Nat) (h : ks.length ≤ k) (s : Bs) : inT ks k s = ks.contains s := by
  unfold inT
  rw [List.take_of_length_le h]
theorem small_all {l : List DV} (hB : FewB l) (h : checkB (nds l) = true) {s : Bs} (hs : s ∈ allP (nds l)) : s.length ≤ 100000 := by
  rw [all_true h] at hs
  rcases List.mem_cons.1 hs with rfl | hs
  · simp
  · obtain ⟨x, hx, rfl⟩ := List.mem_map.1 hs
    have h1 := up_of (l := nds l) (fun d hd y hy => by
      unfold nds at hd
      obtain ⟨z, hz, rfl⟩ := List.mem_map.1 hd
      exact (hB.each z hz).nm y hy) (nds l).length [] 0 (fun z hz => by cases hz) x hx
    have h2 := join_small _ h1.2
    have h3 := h1.1
    have h4 := hB.n
    simp only [List.length_nil, nds_length] at h3
    unfold pathP
    rw [List.length_append, List.length_singleton] at h2
    rw [List.length_cons]
    omega
theorem row_cell {w : World} {B n : Nat} {A : Option Addr} {ks : List Bs} (h : Reads w B 1 A n (svs ks)) {k : Nat} {x : Bs} (hx : ks[k]? = some x) : ∃ g o, A = some ⟨g, o, none⟩ ∧ g < B ∧ w.cell? ⟨g, o + k, none⟩ = some (.string ⟨x.toArray⟩) := by
  obtain ⟨hk, e⟩ := List.getElem?_eq_some_iff.1 hx
  have hn := rd_lenT h
  obtain ⟨g, o, rfl, hg, hc⟩ := cells_of h (by omega) (by rw [svs_length]; omega)
  refine ⟨g, o, rfl, hg, ?_⟩
  have := hc k _ (svs_get ks k hk)
  rw [e] at this
  exact this
set_option maxRecDepth 100000 in
set_option maxHeartbeats 16000000 in
theorem lawall_any (L : Option Addr) (n c : Nat) (l : List DV) (w : World) (hF : FsR w w.heap.size L n l) (hn : n ≤ maxLen) :
    Calls Try.prog 5 #[.agg #[.slice L n c]] w fun e w' => e = .returned (.bool true) ∧ Below w.heap.size w w' := by
  have hl := hF.len
  have hln : (nds l).length = n := by rw [nds_length, hl]
  obtain ⟨W1, hW1⟩ : ∃ W, w.alloc (.cells #[.slice L n c] 24) = W := ⟨_, rfl⟩
  have b1 : Below w.heap.size w W1 := by rw [← hW1]; exact on_alloc _ _
  have k1 : Blk W1 w.heap.size 24 #[.slice L n c] := by rw [← hW1]; exact Blk.new w _ _
  have XF := hide (few_any L n c l W1 ((hF.below b1).more b1.size) hn)
  have HFS := hide (fun (V : World) (hV : Below w.heap.size w V) => (hF.below hV).more hV.size)
  have HLN := hide hln
  have HL := hide hl
  have HK := hide k1
  have HB := hide b1
  have k0 := one_ k1
  have kl := k1.lt
  clear hF hn hl hln b1 k1
  go_enter Try.func5, Try.ntmps5
  go_wp2_with fail
  refine XF.out.mono ?_
  rintro e w2 ⟨f, rfl, hf, hb⟩
  have HK := hide (HK.out.below hb HK.out.lt)
  have HB := hide (HB.out.trans (hb.mono HB.out.size))
  clear hb XF k0 kl hW1
  have k0 := one_ HK.out
  have kl := HK.out.lt
  cases f with
  | false =>
    clear hf
    go_wp2_with fail
    refine (heads_any w2).mono ?_
    rintro e w3 ⟨rfl, hb⟩
    have HB := hide (HB.out.trans (hb.mono HB.out.size))
    clear hb
    go_wp2_with fail
    go_ret
    exact ⟨rfl, HB.out⟩
  | true =>
    have HFEW := hide (hf rfl)
    clear hf
    have XC := hide (check_any L n c l w2 (HFS.out _ HB.out) HFEW.out)
    go_wp2_with fail
    refine XC.out.mono ?_
    rintro e w3 ⟨rfl, hb⟩
    have HK := hide (HK.out.below hb HK.out.lt)
    have HB := hide (HB.out.trans (hb.mono HB.out.size))
    clear hb XC k0 kl
    have k0 := one_ HK.out
    have kl := HK.out.lt
    cases hck : checkB (nds l) with
    | false =>
      clear hck
      go_wp2_with fail
      refine (heads_any w3).mono ?_
      rintro e w4 ⟨rfl, hb⟩
      have HB := hide (HB.out.trans (hb.mono HB.out.size))
      clear hb
      go_wp2_with fail
      go_ret
      exact ⟨rfl, HB.out⟩
    | true =>
      have HCK := hide hck
      clear hck
      have XA := hide (all_any L n c l w3 (HFS.out _ HB.out) HFEW.out)
      go_wp2_with fail
      refine XA.out.mono ?_
      rintro e w4 ⟨A, m, ca, rfl, ho, hb⟩
      obtain ⟨ks, hks⟩ : ∃ ks, allP (nds l) = ks := ⟨_, rfl⟩
      rw [hks] at ho
      have HKS := hide hks
      have hm := ho.len
      have HM := hide hm
      have HR4 := hide ho.rd
      have HK := hide (HK.out.below hb HK.out.lt)
      have HB := hide (HB.out.trans (hb.mono HB.out.size))
      have hn60 : n ≤ 60 := by have := HFEW.out.n; have := HL.out; omega
      have hm2 : m ≤ 100001 := by
        have h1 := all_length HCK.out
        have h2 := names_few HFEW.out
        rw [hks, hm] at h1
        omega
      clear hb XA k0 kl ho hks hm
      have k0 := one_ HK.out
      have kl := HK.out.lt
      go_wp2_with fail
      go_loopw [4, 5] (fun u4 u5 wx => ∃ i q : Nat, i ≤ n ∧ q ≤ 201 ∧ u4 = .int .i64 (q : Int) ∧ u5 = .int .i64 (i : Int) ∧ Hid (q = 1 + upto l i) ∧ Hid (w4 = wx)) (fun _ i _ => n - (intOf i).toNat)
      case atStart => exact ⟨0, 1, Nat.zero_le _, by omega, rfl, rfl, hide rfl, hide (by trivial)⟩
      case round =>
        obtain ⟨i, q, hi, hq, rfl, rfl, HQ, HW4⟩ := hrel
        obtain rfl := HW4.out
        by_cases hin : i < n
        · have hlt : (i : Int) < (n : Int) := by omega
          obtain ⟨g, o, x, hL, hg, hx, hok, hc⟩ := (HFS.out _ HB.out).at_ hin
          subst hL
          have i1 := fun W => nd_at g o n c i (i : Int) rfl hin W
          obtain ⟨d0, d1, d2, d3, d4, d5⟩ := hc
          have HQ2 : Hid (q + x.mn = 1 + upto l (i + 1)) := hide (by rw [upto_succ hx, HQ.out, hok.nl]; omega)
          have hq2 : q + x.mn ≤ 201 := by have h1 := HQ2.out; have h2 := upto_le HFEW.out (i + 1); omega
          have kw : IntKind.i64.wrap ((q : Int) + (x.mn : Int)) = (q : Int) + (x.mn : Int) := by simp [IntKind.wrap, IntKind.bits, IntKind.signed]; omega
          clear hx hok
          go_wp2_with fail
          go_roundw
          case rel => exact ⟨i + 1, q + x.mn, by omega, hq2, by go_num, by go_num, HQ2, hide (by trivial)⟩
          case measure => simp [intOf]; omega
        · have hlt : ¬ (i : Int) < (n : Int) := by omega
          obtain rfl : n = i := by omega
          have hqm : q = m := by
            rw [HQ.out, upto_all HL.out, ← all_length HCK.out, HKS.out, HM.out]
          clear HQ
          subst hqm
          have hm0 : 0 < q := by
            have h1 := all_length HCK.out
            rw [HKS.out, HM.out] at h1
            omega
          have hk0 : ks[0]? = some [47] := by rw [← HKS.out, all_true HCK.out]; rfl
          obtain ⟨gA, oA, rfl, hgA, hcA⟩ := row_cell HR4.out hk0
          rw [Nat.add_zero] at hcA
          have hne : (([47] : Bs) != [47]) = false := rfl
          clear hk0
          go_wp2_with fail
          clear hcA
          go_loopw [6] (fun u6 wx => ∃ j : Nat, j ≤ q ∧ u6 = .int .i64 (j : Int) ∧ Hid (Below w4.heap.size w4 wx)) (fun j _ => q - (intOf j).toNat)
          case atStart => exact ⟨0, Nat.zero_le _, rfl, hide (Below.refl _ _)⟩
          case round =>
            obtain ⟨j, hj, rfl, HW⟩ := hrel
            have HW2 := hide (HB.out.trans (HW.out.mono HB.out.size))
            have HKj := hide (HK.out.below HW.out HK.out.lt)
            by_cases hjq : j < q
            · have hlt2 : (j : Int) < (q : Int) := by omega
              obtain ⟨x, hx⟩ : ∃ x, ks[j]? = some x := ⟨_, List.getElem?_eq_getElem (by have := HM.out; omega)⟩
              have HX := hide hx
              have hxl : x.length ≤ 100000 := small_all HFEW.out HCK.out (by rw [HKS.out]; exact List.mem_of_getElem? hx)
              have hxc : clean x = x := all_clean HCK.out x (by rw [HKS.out]; exact List.mem_of_getElem? hx)
              have HXL := hide hxl
              have HXC := hide hxc
              clear hx hxl hxc
              go_wp2_with fail
              go_loopw [7] (fun u7 wy => ∃ k : Nat, k ≤ j ∧ u7 = .int .i64 (k : Int) ∧ Hid (Below w4.heap.size w4 wy)) (fun k _ => j - (intOf k).toNat)
              case atStart => exact ⟨0, Nat.zero_le _, rfl, HW⟩
              case round =>
                obtain ⟨k, hk, rfl, HY⟩ := hrel
                by_cases hkj : k < j
                · have hlt3 : (k : Int) < (j : Int) := by omega
                  obtain ⟨y, hy⟩ : ∃ x, ks[k]? = some x := ⟨_, List.getElem?_eq_getElem (by have := HM.out; omega)⟩
                  have hxy : (x == y) = false := by
                    have h1 := all_apart HCK.out
                    rw [HKS.out] at h1
                    obtain ⟨p1, e1⟩ := List.getElem?_eq_some_iff.1 HX.out
                    obtain ⟨p2, e2⟩ := List.getElem?_eq_some_iff.1 hy
                    have h2 := List.pairwise_iff_getElem.1 h1 k j p2 p1 hkj
                    rw [e1, e2] at h2
                    exact beq_eq_false_iff_ne.2 fun e => h2 e.symm
                  obtain ⟨g1, o1, hA1, hg1, hc1⟩ := row_cell (HR4.out.below HY.out) HX.out
                  obtain ⟨g2, o2, hA2, hg2, hc2⟩ := row_cell (HR4.out.below HY.out) hy
                  injection hA1 with hA1
                  injection hA1 with e1 e2
                  subst e1; subst e2
                  injection hA2 with hA2
                  injection hA2 with e1 e2
                  subst e1; subst e2
                  clear hy
                  go_wp2_with fail
                  go_quiet (fail)
                  go_wp2_with fail
                  go_roundw
                  case rel => exact ⟨k + 1, by omega, by go_num, hide (bl_drewN HY.out)⟩
                  case measure => simp [intOf]; omega
                · have hlt3 : ¬ (k : Int) < (j : Int) := by omega
                  obtain rfl : j = k := by omega
                  go_wp2_with fail
                  by_cases hj0 : 0 < j
                  · skip
                    have hgt : decide ((0 : Int) < (j : Int)) = true := decide_eq_true (by omega)
                    have hgt2 : (0 : Int) < (j : Int) := by omega
                    have XCL := hide (fun V => rclean_any x V HXL.out)
                    rw [HXC.out] at XCL
                    have hxx : (x != x) = false := by simp
                    have HCW := hide (fun (V : World) (hV : Below w4.heap.size w4 V) => row_cell (HR4.out.below hV) HX.out)
                    obtain ⟨g1, o1, hA1, hg1, hc1⟩ := HCW.out _ HY.out
                    injection hA1 with hA1
                    injection hA1 with e1 e2
                    subst e1; subst e2
                    refine wp_region_K (fun V' => V'.cell? ⟨gA, oA + j, none⟩ = some (.string ⟨x.toArray⟩)) [] rfl hc1 (fun hHeld => ?_)
                    refine wpAnyK_take (i := 0) (v := ?_) rfl rfl (by kernel_rfl) (fun _ _ _ h => h) (Or.inl ⟨by rfl, ?_⟩) (by assumption) ?_
                    rotate_left
                    · (intro V hV; (try dsimp only at hV); go_simp; with_reducible rfl)
                    try simp only [Act.put, List.setIfInBounds_toArray, List.set_cons_zero, List.set_cons_succ]
                    refine wpAnyK_take (i := 1) (v := ?_) rfl rfl (by kernel_rfl) (fun _ _ _ h => h) (Or.inl ⟨by rfl, ?_⟩) (by assumption) ?_
                    rotate_left
                    · (intro V hV; (try dsimp only at hV); go_simp; with_reducible rfl)
                    try simp only [Act.put, List.setIfInBounds_toArray, List.set_cons_zero, List.set_cons_succ]
                    refine wpAnyK_take (i := 2) (v := ?_) rfl rfl (by kernel_rfl) (fun _ _ _ h => h) (Or.inl ⟨by rfl, ?_⟩) (by assumption) ?_
                    rotate_left
                    · (intro V hV; (try dsimp only at hV); go_simp; with_reducible rfl)
                    try simp only [Act.put, List.setIfInBounds_toArray, List.set_cons_zero, List.set_cons_succ]
                    refine wpAnyK_take (i := 3) (v := ?_) rfl rfl (by kernel_rfl) (fun _ _ _ h => h) (Or.inl ⟨by rfl, ?_⟩) (by assumption) ?_
                    rotate_left
                    · (intro V hV; (try dsimp only at hV); go_simp; with_reducible rfl)
                    try simp only [Act.put, List.setIfInBounds_toArray, List.set_cons_zero, List.set_cons_succ]
                    refine wpAnyK_take (i := 4) (v := ?_) rfl rfl (by kernel_rfl) (fun _ _ _ h => h) (Or.inl ⟨by rfl, ?_⟩) (by assumption) ?_
                    rotate_left
                    · (intro V hV; (try dsimp only at hV); go_simp; with_reducible rfl)
                    try simp only [Act.put, List.setIfInBounds_toArray, List.set_cons_zero, List.set_cons_succ]
                    refine wpAnyK_take (i := 5) (v := ?_) rfl rfl (by kernel_rfl) (fun _ _ _ h => h) (Or.inl ⟨by rfl, ?_⟩) (by assumption) ?_
                    rotate_left
                    · (intro V hV; (try dsimp only at hV); go_simp; with_reducible rfl)
                    try simp only [Act.put, List.setIfInBounds_toArray, List.set_cons_zero, List.set_cons_succ]
                    refine wpAnyK_take (i := 6) (v := ?_) rfl rfl (by kernel_rfl) (fun _ _ _ h => h) (Or.inl ⟨by rfl, ?_⟩) (by assumption) ?_
                    rotate_left
                    · (intro V hV; (try dsimp only at hV); go_simp; with_reducible rfl)
                    try simp only [Act.put, List.setIfInBounds_toArray, List.set_cons_zero, List.set_cons_succ]
                    refine wpAnyK_take (i := 8) (v := ?_) rfl rfl (by kernel_rfl) (fun _ _ _ h => h) (Or.inl ⟨by rfl, ?_⟩) (by assumption) ?_
                    rotate_left
                    · (intro V hV; (try dsimp only at hV); go_simp; with_reducible rfl)
                    try simp only [Act.put, List.setIfInBounds_toArray, List.set_cons_zero, List.set_cons_succ]
                    refine wpAnyK_take (i := 9) (v := ?_) rfl rfl (by kernel_rfl) (fun _ _ _ h => h) (Or.inl ⟨by rfl, ?_⟩) (by assumption) ?_
                    rotate_left
                    · (intro V hV; (try dsimp only at hV); go_simp; with_reducible rfl)
                    try simp only [Act.put, List.setIfInBounds_toArray, List.set_cons_zero, List.set_cons_succ]
                    refine wpAnyK_take (i := 10) (v := ?_) rfl rfl (by kernel_rfl) (fun _ _ _ h => h) (Or.inl ⟨by rfl, ?_⟩) (by assumption) ?_
                    rotate_left
                    · (intro V hV; (try dsimp only at hV); go_simp; with_reducible rfl)
                    try simp only [Act.put, List.setIfInBounds_toArray, List.set_cons_zero, List.set_cons_succ]
                    refine wpAnyK_take (i := 11) (v := ?_) rfl rfl (by kernel_rfl) (fun _ _ _ h => h) (Or.inl ⟨by rfl, ?_⟩) (by assumption) ?_
                    rotate_left
                    · (intro V hV; (try dsimp only at hV); go_simp; with_reducible rfl)
                    try simp only [Act.put, List.setIfInBounds_toArray, List.set_cons_zero, List.set_cons_succ]
                    refine wpAnyK_step (i := 7) (by kernel_rfl) rfl rfl (fun K hK => ?_)
                    go_simp
                    with_reducible refine (XCL.out _).mono ?_
                    rintro e w5 ⟨rfl, hb⟩
                    have hb5 : Below w4.heap.size w4 w5 := (bl_drewN (n := 1) HY.out).trans (hb.mono HY.out.size)
                    obtain ⟨g1, o1, hA1, hg1, hc5⟩ := HCW.out _ hb5
                    injection hA1 with hA1
                    injection hA1 with e1 e2
                    subst e1; subst e2
                    refine hK.out _ _ (fun _ _ => hc5) ?_
                    have HB5 := hide hb5
                    clear hK K hb hb5 hc1 hHeld
                    have hHeld : (fun V' : World => V'.cell? ⟨gA, oA + j, none⟩ = some (.string ⟨x.toArray⟩)) w5 := hc5
                    simp only [List.setIfInBounds_toArray]
                    refine wpAnyK_take (i := 12) (v := ?_) rfl rfl (by kernel_rfl) (fun _ _ _ h => h) (Or.inl ⟨by rfl, ?_⟩) (by assumption) ?_
                    rotate_left
                    · (intro V hV; (try dsimp only at hV); go_simp; with_reducible rfl)
                    try simp only [Act.put, List.setIfInBounds_toArray, List.set_cons_zero, List.set_cons_succ]
                    refine wpAnyK_take (i := 13) (v := ?_) rfl rfl (by kernel_rfl) (fun _ _ _ h => h) (Or.inl ⟨by rfl, ?_⟩) (by assumption) ?_
                    rotate_left
                    · (intro V hV; (try dsimp only at hV); go_simp; with_reducible rfl)
                    try simp only [Act.put, List.setIfInBounds_toArray, List.set_cons_zero, List.set_cons_succ]
                    refine wpAnyK_done (by kernel_rfl) ?_ _
                    (try simp only [Exit.then])
                    clear hHeld hc5 XCL HCW
                    go_wp2_with fail
                    go_roundw
                    case rel => exact ⟨j + 1, by omega, by go_num, HB5⟩
                    case measure => simp [intOf]; omega
                  · skip
                    have hgt : decide ((0 : Int) < (j : Int)) = false := decide_eq_false (by omega)
                    have hgt2 : ¬ (0 : Int) < (j : Int) := by omega
                    refine wp_region_K (fun V' => True) [] rfl trivial (fun hHeld => ?_)
                    refine wpAnyK_take (i := 0) (v := ?_) rfl rfl (by kernel_rfl) (fun _ _ _ h => h) (Or.inl ⟨by rfl, ?_⟩) (by assumption) ?_
                    rotate_left
                    · (intro V hV; (try dsimp only at hV); go_simp; with_reducible rfl)
                    try simp only [Act.put, List.setIfInBounds_toArray, List.set_cons_zero, List.set_cons_succ]
                    refine wpAnyK_take (i := 1) (v := ?_) rfl rfl (by kernel_rfl) (fun _ _ _ h => h) (Or.inl ⟨by rfl, ?_⟩) (by assumption) ?_
                    rotate_left
                    · (intro V hV; (try dsimp only at hV); go_simp; with_reducible rfl)
                    try simp only [Act.put, List.setIfInBounds_toArray, List.set_cons_zero, List.set_cons_succ]
                    refine wpAnyK_take (i := 2) (v := ?_) rfl rfl (by kernel_rfl) (fun _ _ _ h => h) (Or.inl ⟨by rfl, ?_⟩) (by assumption) ?_
                    rotate_left
                    · (intro V hV; (try dsimp only at hV); go_simp; with_reducible rfl)
                    try simp only [Act.put, List.setIfInBounds_toArray, List.set_cons_zero, List.set_cons_succ]
                    refine wpAnyK_take (i := 3) (v := undef) rfl rfl (by kernel_rfl) (fun _ _ _ h => h) (Or.inr ⟨by rfl, rfl⟩) (by assumption) ?_
                    try simp only [Act.put, List.setIfInBounds_toArray, List.set_cons_zero, List.set_cons_succ]
                    refine wpAnyK_take (i := 4) (v := undef) rfl rfl (by kernel_rfl) (fun _ _ _ h => h) (Or.inr ⟨by rfl, rfl⟩) (by assumption) ?_
                    try simp only [Act.put, List.setIfInBounds_toArray, List.set_cons_zero, List.set_cons_succ]
                    refine wpAnyK_take (i := 5) (v := undef) rfl rfl (by kernel_rfl) (fun _ _ _ h => h) (Or.inr ⟨by rfl, rfl⟩) (by assumption) ?_
                    try simp only [Act.put, List.setIfInBounds_toArray, List.set_cons_zero, List.set_cons_succ]
                    refine wpAnyK_take (i := 6) (v := undef) rfl rfl (by kernel_rfl) (fun _ _ _ h => h) (Or.inr ⟨by rfl, rfl⟩) (by assumption) ?_
                    try simp only [Act.put, List.setIfInBounds_toArray, List.set_cons_zero, List.set_cons_succ]
                    refine wpAnyK_take (i := 7) (v := undef) rfl rfl (by kernel_rfl) (fun _ _ _ h => h) (Or.inr ⟨by rfl, rfl⟩) (by assumption) ?_
                    try simp only [Act.put, List.setIfInBounds_toArray, List.set_cons_zero, List.set_cons_succ]
                    refine wpAnyK_take (i := 8) (v := undef) rfl rfl (by kernel_rfl) (fun _ _ _ h => h) (Or.inr ⟨by rfl, rfl⟩) (by assumption) ?_
                    try simp only [Act.put, List.setIfInBounds_toArray, List.set_cons_zero, List.set_cons_succ]
                    refine wpAnyK_take (i := 9) (v := undef) rfl rfl (by kernel_rfl) (fun _ _ _ h => h) (Or.inr ⟨by rfl, rfl⟩) (by assumption) ?_
                    try simp only [Act.put, List.setIfInBounds_toArray, List.set_cons_zero, List.set_cons_succ]
                    refine wpAnyK_take (i := 10) (v := undef) rfl rfl (by kernel_rfl) (fun _ _ _ h => h) (Or.inr ⟨by rfl, rfl⟩) (by assumption) ?_
                    try simp only [Act.put, List.setIfInBounds_toArray, List.set_cons_zero, List.set_cons_succ]
                    refine wpAnyK_take (i := 11) (v := undef) rfl rfl (by kernel_rfl) (fun _ _ _ h => h) (Or.inr ⟨by rfl, rfl⟩) (by assumption) ?_
                    try simp only [Act.put, List.setIfInBounds_toArray, List.set_cons_zero, List.set_cons_succ]
                    refine wpAnyK_take (i := 12) (v := undef) rfl rfl (by kernel_rfl) (fun _ _ _ h => h) (Or.inr ⟨by rfl, rfl⟩) (by assumption) ?_
                    try simp only [Act.put, List.setIfInBounds_toArray, List.set_cons_zero, List.set_cons_succ]
                    refine wpAnyK_take (i := 13) (v := ?_) rfl rfl (by kernel_rfl) (fun _ _ _ h => h) (Or.inl ⟨by rfl, ?_⟩) (by assumption) ?_
                    rotate_left
                    · (intro V hV; (try dsimp only at hV); go_simp; with_reducible rfl)
                    try simp only [Act.put, List.setIfInBounds_toArray, List.set_cons_zero, List.set_cons_succ]
                    refine wpAnyK_done (by kernel_rfl) ?_ _
                    (try simp only [Exit.then])
                    clear hHeld
                    go_wp2_with fail
                    go_roundw
                    case rel => exact ⟨j + 1, by omega, by go_num, hide (bl_drewN (n := 1) HY.out)⟩
                    case measure => simp [intOf]; omega
            · have hlt2 : ¬ (j : Int) < (q : Int) := by omega
              obtain rfl : q = j := by omega
              go_wp2_with fail
              go_loopw [8] (fun u8 wy => ∃ p : Nat, p ≤ n ∧ u8 = .int .i64 (p : Int) ∧ Hid (Below w4.heap.size w4 wy)) (fun p _ => n - (intOf p).toNat)
              case atStart => exact ⟨0, Nat.zero_le _, rfl, HW⟩
              case round =>
                clear HW2 HKj
                obtain ⟨p, hp, rfl, HY⟩ := hrel
                have HW2 := hide (HB.out.trans (HY.out.mono HB.out.size))
                have HKj := hide (HK.out.below HY.out HK.out.lt)
                by_cases hpn : p < n
                · have hlt4 : (p : Int) < (n : Int) := by omega
                  have XW := hide (where_any L n c l (p : Int) wr (HFS.out _ HW2.out) HFEW.out)
                  have hTB := where_all HCK.out (p : Int)
                  rw [HKS.out] at hTB
                  obtain ⟨T, hT⟩ : ∃ T, (whereP (nds l) (p : Int)).1 = T := ⟨_, rfl⟩
                  obtain ⟨b, hb0⟩ : ∃ b, (whereP (nds l) (p : Int)).2 = b := ⟨_, rfl⟩
                  rw [hT, hb0] at hTB XW
                  have HTB := hide hTB
                  clear hTB hT hb0 k0 kl
                  have k0 := one_ HKj.out
                  have kl := HKj.out.lt
                  go_wp2_with fail
                  with_reducible refine XW.out.mono ?_
                  rintro e w6 ⟨rfl, hb⟩
                  have HY6 := hide (HY.out.trans (hb.mono HY.out.size))
                  clear hb XW
                  go_wp2_with fail
                  go_loopw [11, 12] (fun u11 u12 wz => ∃ k : Nat, k ≤ q ∧ u12 = .int .i64 (k : Int) ∧ u11 = .bool (inT ks k T) ∧ Hid (w6 = wz)) (fun _ k _ => q - (intOf k).toNat)
                  case atStart => exact ⟨0, Nat.zero_le _, rfl, rfl, hide (by trivial)⟩
                  case round =>
                    obtain ⟨k, hk, rfl, rfl, H6⟩ := hrel
                    obtain rfl := H6.out
                    by_cases hkq : k < q
                    · have hlt5 : (k : Int) < (q : Int) := by omega
                      obtain ⟨x, hx⟩ : ∃ x, ks[k]? = some x := ⟨_, List.getElem?_eq_getElem (by have := HM.out; omega)⟩
                      obtain ⟨g1, o1, hA1, hg1, hc1⟩ := row_cell (HR4.out.below HY6.out) hx
                      injection hA1 with hA1
                      injection hA1 with e1 e2
                      subst e1; subst e2
                      have HIS := hide (inT_succ hx T)
                      clear hx
                      cases hi1 : inT ks k T with
                      | true =>
                        have HI2 : Hid (inT ks (k + 1) T = true) := hide (by rw [HIS.out, hi1]; rfl)
                        clear hi1
                        go_wp2_with fail
                        go_roundw
                        case rel => exact ⟨k + 1, by omega, by go_num, by rw [HI2.out], hide (by trivial)⟩
                        case measure => simp [intOf]; omega
                      | false =>
                        cases hxT : (x == T) with
                        | true =>
                          have HI2 : Hid (inT ks (k + 1) T = true) := hide (by rw [HIS.out, hi1, hxT]; rfl)
                          clear hi1
                          go_wp2_with fail
                          go_roundw
                          case rel => exact ⟨k + 1, by omega, by go_num, by rw [HI2.out], hide (by trivial)⟩
                          case measure => simp [intOf]; omega
                        | false =>
                          have HI2 : Hid (inT ks (k + 1) T = false) := hide (by rw [HIS.out, hi1, hxT]; rfl)
                          clear hi1
                          go_wp2_with fail
                          go_roundw
                          case rel => exact ⟨k + 1, by omega, by go_num, by rw [HI2.out], hide (by trivial)⟩
                          case measure => simp [intOf]; omega
                    · have hlt5 : ¬ (k : Int) < (q : Int) := by omega
                      obtain rfl : q = k := by omega
                      have hin2 : inT ks q T = b := by rw [inT_all ks q (by have := HM.out; omega), HTB.out]
                      rw [hin2]
                      clear hin2 HTB
                      have hbb : (b != b) = false := by simp
                      go_wp2_with fail
                      go_roundw
                      case rel => exact ⟨p + 1, by omega, by go_num, HY6⟩
                      case measure => simp [intOf]; omega
                · have hlt4 : ¬ (p : Int) < (n : Int) := by omega
                  clear k0 kl
                  have k0 := one_ HKj.out
                  have kl := HKj.out.lt
                  go_wp2_with fail
                  with_reducible refine (heads_any wr).mono ?_
                  rintro e w6 ⟨rfl, hb⟩
                  have HE := hide (HW2.out.trans (hb.mono HW2.out.size))
                  clear hb
                  go_wp2_with fail
                  go_ret
                  exact ⟨rfl, HE.out⟩
end Go.Proofs.Ytnhfpaobocbieaa
