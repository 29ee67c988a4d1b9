/- The document's Check. -/
import Derived.Test.YtnhfpaobocbieaaNdQb
namespace Go.Proofs.Ytnhfpaobocbieaa
open Go.RowKit
set_option linter.unusedVariables false
theorem zsC_at {l : List ND} {n v : Nat} (hn : l.length = n) (h : v < n) : (zsN (prs l n) n)[v]? = some (cnt l (v : Int) : Int) := by
  rw [zsN_at h, ← hn, cN_all]
theorem zsU_at {l : List ND} {n v : Nat} (hn : l.length = n) (h : v < n) : (zsI (prs l n) n)[v]? = some (pUp l (v : Int)) := by
  rw [zsI_at h, ← hn]
  rfl
theorem ck_no_node {l : List ND} {i : Nat} (hi : i < l.length) (h : nodeB (ndAt l (i : Int)) l.length = false) : checkB l = false := by
  cases hc : checkB l with
  | false => rfl
  | true => rw [node_ok hc hi] at h; cases h
theorem ck_no_link {l : List ND} {i : Nat} (hi : i < l.length) (h : linkB l i = false) : checkB l = false := by
  cases hc : checkB l with
  | false => rfl
  | true => rw [links_at hc hi] at h; cases h
theorem link_zero (l : List ND) : linkB l 0 = (decide ((ndAt l 0).kind = 2) && decide ((ndAt l 0).links = 1) && decide (cnt l 0 = 0)) := by unfold linkB; rw [if_pos rfl]
theorem link_pos (l : List ND) {i : Nat} (h : i ≠ 0) : linkB l i = (decide ((ndAt l i).links = (cnt l i : Int)) && !(decide ((ndAt l i).kind = 2) && (decide (1 < (ndAt l i).links) || (decide ((ndAt l i).links = 0) && !(ndAt l i).names.isEmpty)))) := by unfold linkB; rw [if_neg h]
/-- So far up. -/
def Up (l : List ND) (i : Int) (k : Nat) : Prop := ∀ j, j < k → itr (pUp l) j i ≠ 0 ∧ cnt l (itr (pUp l) j i) ≠ 0
theorem ck_no_up {l : List ND} {i k : Nat} (hi : i < l.length) (h0 : i ≠ 0) (hk : (ndAt l (i : Int)).kind = 2) (hc : cnt l (i : Int) ≠ 0) (hu : Up l (i : Int) k) (hz : itr (pUp l) k (i : Int) ≠ 0) (hend : k = l.length ∨ cnt l (itr (pUp l) k (i : Int)) = 0) : checkB l = false := by
  cases hcb : checkB l with
  | false => rfl
  | true =>
    obtain ⟨m, hm, h1, h2⟩ := ck_chain hcb hi h0 hk hc
    rcases Nat.lt_trichotomy m k with h | h | h
    · exact absurd h1 (hu m h).1
    · subst h; exact absurd h1 hz
    · rcases hend with he | he
      · omega
      · exact absurd he (h2 k h).2
theorem isEmpty_of {l : List NM} {n : Nat} (h : l.length = n) : l.isEmpty = decide (n = 0) := by
  subst h
  cases l <;> simp
set_option maxRecDepth 100000 in
set_option maxHeartbeats 16000000 in
theorem rcheck_any (L : Option Addr) (n c : Nat) (l : List DV) (w : World) (hF : FsR w w.heap.size L n l) (hB : FewB l) :
    Calls Try.prog 18 #[.agg #[.slice L n c]] w fun e w' => e = .returned (.bool (checkB (nds l))) ∧ Below w.heap.size w w' := by
  have hl := hF.len
  have hln : (nds l).length = n := by rw [nds_length, hl]
  have hn : n ≤ 60 := by have := hB.n; omega
  obtain ⟨W1, hW1⟩ : ∃ W, w.alloc (.cells #[.slice L n c] 24) = W := ⟨_, rfl⟩
  have b1 : Below w.heap.size w W1 := by rw [← hW1]; exact on_alloc _ _
  have k1 : Blk W1 w.heap.size 24 #[.slice L n c] := by rw [← hW1]; exact Blk.new w _ _
  have HFS := hide (fun (V : World) (hV : Below w.heap.size w V) => (hF.below hV).more hV.size)
  have HFEWB := hide hB
  have HLN := hide hln
  have HL := hide hl
  have HK := hide k1
  have HB := hide b1
  have k0 := one_ k1
  have kl := k1.lt
  obtain ⟨R, hR⟩ : ∃ R, checkB (nds l) = R := ⟨_, rfl⟩
  rw [hR]
  have HR := hide hR
  clear hF hB hl hln b1 k1 hR
  go_enter Try.func18, Try.ntmps18
  by_cases hz : n = 0
  · have hRe : R = false := by rw [← HR.out]; unfold checkB; rw [HLN.out, hz]; rfl
    subst hRe
    have hz1 : (n : Int) < 1 := by omega
    clear hz
    go_wp2_with fail
    go_ret
    exact ⟨rfl, HB.out⟩
  have hz1 : ¬ ((n : Int) < 1) := by omega
  have hz2 : ¬ ((256 : Int) < (n : Int)) := by omega
  have hnp : 0 < n := by omega
  obtain ⟨g, o, x0, hL, hg, hx0, hok0, hc0⟩ := (HFS.out _ HB.out).at_ hnp
  subst hL
  have i0 := fun W => nd_at g o n c 0 0 rfl hnp W
  have HX0 : Hid (ndAt (nds l) 0 = x0.r) := hide (nds_at (k := 0) hx0)
  obtain ⟨d0, d1, d2, d3, d4, d5⟩ := hc0
  simp only [Nat.zero_mul, Nat.add_zero] at d0 d2 i0
  clear hx0 hok0 d1 d3 d4 d5
  by_cases hk0 : x0.r.kind = 2
  case neg =>
    have hk0b : (x0.r.kind != 2) = true := bne_iff_ne.2 hk0
    have hRe : R = false := by rw [← HR.out]; exact ck_no_link (i := 0) (by rw [HLN.out]; exact hnp) (by rw [link_zero, HX0.out, decide_eq_false hk0]; rfl)
    subst hRe
    clear hk0
    go_wp2_with fail
    go_ret
    exact ⟨rfl, HB.out⟩
  have hk0b : (x0.r.kind != 2) = false := by rw [hk0]; rfl
  by_cases hl0 : x0.r.links = 1
  case neg =>
    have hl0b : (x0.r.links != 1) = true := bne_iff_ne.2 hl0
    have hRe : R = false := by rw [← HR.out]; exact ck_no_link (i := 0) (by rw [HLN.out]; exact hnp) (by rw [link_zero, HX0.out, decide_eq_false hl0]; simp)
    subst hRe
    clear hk0 hl0
    go_wp2_with fail
    go_ret
    exact ⟨rfl, HB.out⟩
  have hl0b : (x0.r.links != 1) = false := by rw [hl0]; rfl
  have HK0 := hide (And.intro hk0 hl0)
  clear hk0 hl0
  go_wp2_with fail
  clear i0 d0 d2 hk0b hl0b k0 kl
  go_loopw [3] (fun u3 wx => ∃ i : Nat, i ≤ n ∧ u3 = .int .i64 (i : Int) ∧ Hid (∀ j, j < i → nodeB (ndAt (nds l) (j : Int)) (n : Int) = true) ∧ Hid (Below w.heap.size w wx) ∧ Hid (Blk wx w.heap.size 24 #[.slice (some ⟨g, o, none⟩) n c])) (fun i _ => n - (intOf i).toNat)
  case atStart => exact ⟨0, Nat.zero_le _, rfl, hide (fun j hj => absurd hj (by omega)), HB, HK⟩
  case round =>
    clear HB HK
    obtain ⟨i, hi, rfl, HA, HB, HK⟩ := hrel
    have k0 := one_ HK.out
    have kl := HK.out.lt
    by_cases hin : i < n
    · have hlt : (i : Int) < (n : Int) := by omega
      obtain ⟨g', o', x, hL, hg', hx, hok, hc⟩ := (HFS.out _ HB.out).at_ hin
      injection hL with hL
      injection hL with e1 e2
      subst e1; subst e2
      have i1 := fun W => nd_at g o n c i (i : Int) rfl hin W
      have HXR : Hid (ndAt (nds l) (i : Int) = x.r) := hide (nds_at hx)
      have XPL := hide (rplain_any x (n : Int) wr.drew ((hok.below (bl_drewN (n := 1) (Below.refl _ _))).more (Nat.le_refl _)) (HFEWB.out.each x (List.mem_of_getElem? hx)))
      unfold DV.cs at XPL
      have HC := hide hc
      clear hx hok hc
      go_wp2_with fail
      refine wp_region_K (fun V => V.cell? ⟨w.heap.size, 0, none⟩ = some (.slice (some ⟨g, o, none⟩) n c) ∧ V.cell? ⟨g, o + i * 6, none⟩ = some (.int .i64 x.r.kind) ∧ V.cell? ⟨g, o + i * 6 + 1, none⟩ = some (.int .i64 x.r.mode) ∧ V.cell? ⟨g, o + i * 6 + 2, none⟩ = some (.int .i64 x.r.links) ∧ V.cell? ⟨g, o + i * 6 + 3, none⟩ = some (.slice x.D x.dn x.dc) ∧ V.cell? ⟨g, o + i * 6 + 4, none⟩ = some (.slice x.M x.mn x.mc) ∧ V.cell? ⟨g, o + i * 6 + 5, none⟩ = some (.string ⟨x.r.to.toArray⟩)) [8, 9] rfl ⟨k0, HC.out⟩ (fun hHeld => ?_)
      refine wpAnyK_take (i := 0) (v := ?_) rfl rfl (by kernel_rfl) (fun _ _ _ h => h) (Or.inl ⟨by rfl, ?_⟩) (by assumption) ?_
      rotate_left
      · (intro V hV; (try dsimp only at hV); go_simp; with_reducible rfl)
      try simp only [Act.put, List.setIfInBounds_toArray, List.set_cons_zero, List.set_cons_succ]
      refine wpAnyK_take (i := 1) (v := ?_) rfl rfl (by kernel_rfl) (fun _ _ _ h => h) (Or.inl ⟨by rfl, ?_⟩) (by assumption) ?_
      rotate_left
      · (intro V hV; (try dsimp only at hV); go_simp; with_reducible rfl)
      try simp only [Act.put, List.setIfInBounds_toArray, List.set_cons_zero, List.set_cons_succ]
      refine wpAnyK_take (i := 2) (v := ?_) rfl rfl (by kernel_rfl) (fun _ _ _ h => h) (Or.inl ⟨by rfl, ?_⟩) (by assumption) ?_
      rotate_left
      · (intro V hV; (try dsimp only at hV); go_simp; with_reducible rfl)
      try simp only [Act.put, List.setIfInBounds_toArray, List.set_cons_zero, List.set_cons_succ]
      refine wpAnyK_take (i := 3) (v := ?_) rfl rfl (by kernel_rfl) (fun _ _ _ h => h) (Or.inl ⟨by rfl, ?_⟩) (by assumption) ?_
      rotate_left
      · (intro V hV; (try dsimp only at hV); go_simp; with_reducible rfl)
      try simp only [Act.put, List.setIfInBounds_toArray, List.set_cons_zero, List.set_cons_succ]
      refine wpAnyK_take (i := 4) (v := ?_) rfl rfl (by kernel_rfl) (fun _ _ _ h => h) (Or.inl ⟨by rfl, ?_⟩) (by assumption) ?_
      rotate_left
      · (intro V hV; (try dsimp only at hV); go_simp; with_reducible rfl)
      try simp only [Act.put, List.setIfInBounds_toArray, List.set_cons_zero, List.set_cons_succ]
      refine wpAnyK_take (i := 5) (v := ?_) rfl rfl (by kernel_rfl) (fun _ _ _ h => h) (Or.inl ⟨by rfl, ?_⟩) (by assumption) ?_
      rotate_left
      · (intro V hV; (try dsimp only at hV); go_simp; with_reducible rfl)
      try simp only [Act.put, List.setIfInBounds_toArray, List.set_cons_zero, List.set_cons_succ]
      refine wpAnyK_take (i := 6) (v := ?_) rfl rfl (by kernel_rfl) (fun _ _ _ h => h) (Or.inl ⟨by rfl, ?_⟩) (by assumption) ?_
      rotate_left
      · (intro V hV; (try dsimp only at hV); go_simp; with_reducible rfl)
      try simp only [Act.put, List.setIfInBounds_toArray, List.set_cons_zero, List.set_cons_succ]
      refine wpAnyK_take (i := 7) (v := ?_) rfl rfl (by kernel_rfl) (fun _ _ _ h => h) (Or.inl ⟨by rfl, ?_⟩) (by assumption) ?_
      rotate_left
      · (intro V hV; (try dsimp only at hV); go_simp; with_reducible rfl)
      try simp only [Act.put, List.setIfInBounds_toArray, List.set_cons_zero, List.set_cons_succ]
      refine wpAnyK_step (i := 8) (by kernel_rfl) rfl rfl (fun K hK => ?_)
      go_simp
      with_reducible refine XPL.out.mono ?_
      rintro e w6 ⟨rfl, hb⟩
      have hb6 : Below wr.heap.size wr w6 := ⟨hb.os, hb.tape, hb.output, hb.size, hb.block⟩
      have HB6 := hide (HB.out.trans (hb6.mono HB.out.size))
      have HK6 := hide (HK.out.below hb6 HK.out.lt)
      refine hK.out _ _ (fun _ h => absurd (by simp) h) ?_
      clear hK K hb hb6 XPL hHeld k0 kl i1
      simp only [List.setIfInBounds_toArray]
      refine wpAnyK_step (i := 9) (by kernel_rfl) rfl rfl (fun K hK => ?_)
      go_simp
      refine hK.out _ _ (fun _ h => absurd (by simp) h) ?_
      clear hK K
      simp only [List.setIfInBounds_toArray]
      refine wpAnyK_done (by kernel_rfl) ?_ _
      (try simp only [Exit.then])
      cases hnb : nodeB x.r (n : Int) with
      | false =>
        have hRe : R = false := by
          rw [← HR.out]
          exact ck_no_node (i := i) (by rw [HLN.out]; exact hin) (by rw [HXR.out, HLN.out]; exact hnb)
        subst hRe
        clear hnb
        go_wp2_with fail
        go_ret
        exact ⟨rfl, HB6.out⟩
      | true =>
        have HNB := hide hnb
        clear hnb
        go_wp2_with fail
        go_roundw
        case rel =>
          refine ⟨i + 1, by omega, by go_num, hide (fun j hj => ?_), HB6, HK6⟩
          rcases Nat.lt_or_ge j i with h | h
          · exact HA.out j h
          · obtain rfl : j = i := by omega
            rw [HXR.out]
            exact HNB.out
        case measure => simp [intOf]; omega
    · have hlt : ¬ (i : Int) < (n : Int) := by omega
      obtain rfl : n = i := by omega
      have hallN : ∀ m ∈ nds l, nodeB m ((nds l).length : Int) = true := fun m hm => by
        obtain ⟨j, hj, e⟩ := List.getElem_of_mem hm
        have h2 := HA.out j (by rw [HLN.out] at hj; exact hj)
        rw [ndAt_nat, List.getD_eq_getElem?_getD, List.getElem?_eq_getElem hj] at h2
        rw [HLN.out, ← e]
        exact h2
      have HALL := hide hallN
      have XCN := hide (rcounts_any (some ⟨g, o, none⟩) n c l wr (HFS.out _ HB.out) HFEWB.out (refs_of hallN))
      clear hallN HA
      go_wp2_with fail
      with_reducible refine XCN.out.mono ?_
      rintro e w4 ⟨g1, g2, rfl, hN, hI, hb⟩
      have HK := hide (HK.out.below hb HK.out.lt)
      have HB := hide (HB.out.trans (hb.mono HB.out.size))
      have HN := hide hN
      have HI := hide hI
      clear hN hI hb XCN k0 kl
      have c0 := HN.out.cell (zsC_at HLN.out hnp)
      have i1 := fun W => int_at g1 n n 0 0 rfl hnp W
      by_cases hc0 : cnt (nds l) 0 = 0
      case neg =>
        have hRe : R = false := by rw [← HR.out]; exact ck_no_link (i := 0) (by rw [HLN.out]; exact hnp) (by rw [link_zero, decide_eq_false hc0]; simp)
        subst hRe
        obtain ⟨q, hq⟩ : ∃ q, cnt (nds l) ((0 : Nat) : Int) = q := ⟨_, rfl⟩
        rw [hq] at c0
        have hqb : ((q : Int) != 0) = true := bne_iff_ne.2 (by have : cnt (nds l) 0 = q := hq; omega)
        clear hc0 hq
        go_wp2_with fail
        go_ret
        exact ⟨rfl, HB.out⟩
      rw [show cnt (nds l) ((0 : Nat) : Int) = 0 from hc0] at c0
      have HC0 := hide hc0
      clear hc0
      have hqb : (((0 : Nat) : Int) != 0) = false := rfl
      go_wp2_with fail
      clear c0 i1 hqb
      go_loopw [6] (fun u6 wx => ∃ i : Nat, 1 ≤ i ∧ i ≤ n ∧ u6 = .int .i64 (i : Int) ∧ Hid (∀ j, j < i → linkB (nds l) j = true) ∧ Hid (∀ j, j < i → j ≠ 0 → (ndAt (nds l) (j : Int)).kind = 2 → cnt (nds l) (j : Int) ≠ 0 → ∃ m, UpOk (nds l) (j : Int) m) ∧ Hid (Below w4.heap.size w4 wx)) (fun i _ => n - (intOf i).toNat)
      case atStart => exact ⟨1, Nat.le_refl _, by omega, rfl, hide (fun j hj => by
        obtain rfl : j = 0 := by omega
        rw [link_zero, HX0.out, HK0.out.1, HK0.out.2, HC0.out]
        rfl), hide (fun j hj h0 => absurd h0 (by omega)), hide (Below.refl _ _)⟩
      case round =>
        obtain ⟨i, h1i, hi, rfl, HA, HU, HW⟩ := hrel
        have HWW := hide (HB.out.trans (HW.out.mono HB.out.size))
        have HKW := hide (HK.out.below HW.out HK.out.lt)
        have k0 := one_ HKW.out
        have kl := HKW.out.lt
        by_cases hin : i < n
        · have hlt : (i : Int) < (n : Int) := by omega
          obtain ⟨g', o', x, hL, hg', hx, hok, hc⟩ := (HFS.out _ HWW.out).at_ hin
          injection hL with hL
          injection hL with e1 e2
          subst e1; subst e2
          have i1 := fun W => nd_at g o n c i (i : Int) rfl hin W
          have HXR : Hid (ndAt (nds l) (i : Int) = x.r) := hide (nds_at hx)
          have HEM : Hid (x.r.names.isEmpty = decide (x.mn = 0)) := hide (isEmpty_of hok.nl)
          obtain ⟨d0, d1, d2, d3, d4, d5⟩ := hc
          have hgw : g < wr.heap.size := hg'
          obtain ⟨WC, hWC⟩ : ∃ W, wr.alloc (.cells #[Value.int .i64 x.r.kind, .int .i64 x.r.mode, .int .i64 x.r.links, .slice x.D x.dn x.dc, .slice x.M x.mn x.mc, .string ⟨x.r.to.toArray⟩] 49) = W := ⟨_, rfl⟩
          have bC : Below wr.heap.size wr WC := by rw [← hWC]; exact on_alloc _ _
          have kC : Blk WC wr.heap.size 49 #[Value.int .i64 x.r.kind, .int .i64 x.r.mode, .int .i64 x.r.links, .slice x.D x.dn x.dc, .slice x.M x.mn x.mc, .string ⟨x.r.to.toArray⟩] := by rw [← hWC]; exact Blk.new wr _ _
          have HWC := hide (below_more HW.out (Nat.le_refl _) bC)
          obtain ⟨e0, e1, e2, e3, e4, e5⟩ := six kC
          have e9 := kC.lt
          have c0 := (HN.out.below HWC.out).cell (zsC_at HLN.out hin)
          have i2 := fun W => int_at g1 n n i (i : Int) rfl hin W
          have HLP := hide (link_pos (nds l) (i := i) (by omega))
          rw [HXR.out] at HLP
          obtain ⟨q, hq⟩ : ∃ q, cnt (nds l) (i : Int) = q := ⟨_, rfl⟩
          rw [hq] at c0 HLP
          have HQ := hide hq
          clear hx hok bC kC hq hg'
          go_wp2_with fail
          clear d0 d1 d2 d3 d4 d5 i1 k0 kl hWC hgw
          by_cases hlk : x.r.links = (q : Int)
          case neg =>
            have hlb : (x.r.links != (q : Int)) = true := bne_iff_ne.2 hlk
            have hRe : R = false := by rw [← HR.out]; exact ck_no_link (i := i) (by rw [HLN.out]; exact hin) (by rw [HLP.out, decide_eq_false hlk]; rfl)
            subst hRe
            clear hlk
            go_quiet (fail)
            go_wp2_with fail
            go_ret
            exact ⟨rfl, bl_drewN (HB.out.trans (HWC.out.mono HB.out.size))⟩
          have hlb : (x.r.links != (q : Int)) = false := by rw [hlk]; simp
          rw [hlk] at HLP
          clear hlk
          by_cases hk2 : x.r.kind = 2
          case neg =>
            have hkb : (x.r.kind == 2) = false := beq_eq_false_iff_ne.2 hk2
            have hkc : (x.r.kind != 2) = true := bne_iff_ne.2 hk2
            have HLI : Hid (linkB (nds l) i = true) := hide (by rw [HLP.out, decide_eq_false hk2]; simp)
            have HNK := hide hk2
            clear hk2
            go_quiet (fail)
            go_wp2_with fail
            go_roundw
            case rel =>
              refine ⟨i + 1, by omega, by omega, by go_num, hide (fun j hj => ?_), hide (fun j hj h0 hjk hjc => ?_), hide (bl_drewN HWC.out)⟩
              · rcases Nat.lt_or_ge j i with h | h
                · exact HA.out j h
                · obtain rfl : j = i := by omega
                  exact HLI.out
              · rcases Nat.lt_or_ge j i with h | h
                · exact HU.out j h h0 hjk hjc
                · obtain rfl : j = i := by omega
                  rw [HXR.out] at hjk
                  exact absurd hjk HNK.out
            case measure => simp [intOf]; omega
          have hkb : (x.r.kind == 2) = true := by rw [hk2]; rfl
          have hkc : (x.r.kind != 2) = false := by rw [hk2]; rfl
          have HK2 := hide hk2
          by_cases hq1 : 1 < q
          case pos =>
            have hq1b : decide ((1 : Int) < (q : Int)) = true := decide_eq_true (by omega)
            have hq1c : (1 : Int) < (q : Int) := by omega
            have hRe : R = false := by rw [← HR.out]; exact ck_no_link (i := i) (by rw [HLN.out]; exact hin) (by rw [HLP.out, hk2, decide_eq_true hq1c]; simp)
            subst hRe
            clear hk2 hq1
            go_quiet (fail)
            go_wp2_with fail
            go_ret
            exact ⟨rfl, bl_drewN (HB.out.trans (HWC.out.mono HB.out.size))⟩
          have hq1b : decide ((1 : Int) < (q : Int)) = false := decide_eq_false (by omega)
          have hq1c : ¬ (1 : Int) < (q : Int) := by omega
          by_cases hq0 : q = 0
          case pos =>
            have hqb : ((q : Int) == 0) = true := beq_iff_eq.2 (by omega)
            have HQ0 := hide hq0
            by_cases hmn : x.mn = 0
            case neg =>
              have hmb : decide ((0 : Int) < (x.mn : Int)) = true := decide_eq_true (by omega)
              have hmc : (0 : Int) < (x.mn : Int) := by omega
              have hRe : R = false := by rw [← HR.out]; exact ck_no_link (i := i) (by rw [HLN.out]; exact hin) (by rw [HLP.out, hk2, HEM.out, decide_eq_false hmn, HQ0.out]; simp)
              subst hRe
              clear hk2 hmn hq1 hq0
              go_quiet (fail)
              go_wp2_with fail
              go_ret
              exact ⟨rfl, bl_drewN (HB.out.trans (HWC.out.mono HB.out.size))⟩
            have hmb : decide ((0 : Int) < (x.mn : Int)) = false := decide_eq_false (by omega)
            have hmc : ¬ (0 : Int) < (x.mn : Int) := by omega
            have HLI : Hid (linkB (nds l) i = true) := hide (by rw [HLP.out, HEM.out, decide_eq_true hmn, HQ0.out]; simp)
            clear hk2 hmn hq1 hq0
            go_quiet (fail)
            go_wp2_with fail
            go_roundw
            case rel =>
              refine ⟨i + 1, by omega, by omega, by go_num, hide (fun j hj => ?_), hide (fun j hj h0 hjk hjc => ?_), hide (bl_drewN HWC.out)⟩
              · rcases Nat.lt_or_ge j i with h | h
                · exact HA.out j h
                · obtain rfl : j = i := by omega
                  exact HLI.out
              · rcases Nat.lt_or_ge j i with h | h
                · exact HU.out j h h0 hjk hjc
                · obtain rfl : j = i := by omega
                  exact absurd (HQ.out.trans HQ0.out) hjc
            case measure => simp [intOf]; omega
          have HQ1 : Hid (q = 1) := hide (by omega)
          have hqb : ((q : Int) == 0) = false := beq_eq_false_iff_ne.2 (by omega)
          have HLI : Hid (linkB (nds l) i = true) := hide (by rw [HLP.out, HQ1.out]; simp)
          clear hk2 hq1 hq0 HLP
          go_quiet (fail)
          go_wp2_with fail
          obtain ⟨WZ, hWZ⟩ : ∃ W, WC.drewN nq = W := ⟨_, rfl⟩
          have HWZ : Hid (Below w4.heap.size w4 WZ) := hide (by rw [← hWZ]; exact bl_drewN HWC.out)
          rw [hWZ]
          clear hWZ c0 e0 e1 e2 e3 e4 e5 e9 i2 hkb hkc hq1b hq1c hqb hlb
          have HWWZ := hide (HB.out.trans (HWZ.out.mono HB.out.size))
          have HKZ := hide (HK.out.below HWZ.out HK.out.lt)
          have k0 := one_ HKZ.out
          have kl := HKZ.out.lt
          go_loopw [8, 9] (fun u8 u9 wy => ∃ k a : Nat, k ≤ n ∧ a < n ∧ u8 = .int .i64 (a : Int) ∧ u9 = .int .i64 (k : Int) ∧ Hid ((a : Int) = itr (pUp (nds l)) k (i : Int)) ∧ Hid (Up (nds l) (i : Int) k) ∧ Hid (WZ = wy)) (fun _ k _ => n - (intOf k).toNat)
          case atStart => exact ⟨0, i, Nat.zero_le _, hin, rfl, rfl, hide rfl, hide (fun j hj => absurd hj (by omega)), hide (by trivial)⟩
          case round =>
            obtain ⟨k, a, hk, han, rfl, rfl, HIT, HUP, HZ⟩ := hrel
            obtain rfl := HZ.out
            by_cases hkn : k < n
            · have hlt5 : (k : Int) < (n : Int) := by omega
              have hlt6 : decide ((k : Int) < (n : Int)) = true := decide_eq_true hlt5
              by_cases ha : a = 0
              · skip
                have HA0 : Hid ((a : Int) = 0) := hide (by omega)
                have hab : ((a : Int) != 0) = false := by rw [HA0.out]; rfl
                clear ha
                go_wp2_with fail
                go_roundw
                case rel =>
                  refine ⟨i + 1, by omega, by omega, by go_num, hide (fun j hj => ?_), hide (fun j hj h0 hjk hjc => ?_), HWZ⟩
                  · rcases Nat.lt_or_ge j i with h | h
                    · exact HA.out j h
                    · obtain rfl : j = i := by omega
                      exact HLI.out
                  · rcases Nat.lt_or_ge j i with h | h
                    · exact HU.out j h h0 hjk hjc
                    · obtain rfl : j = i := by omega
                      exact ⟨k, by rw [← HIT.out]; exact HA0.out, HUP.out⟩
                case measure => simp [intOf]; omega
              · have hab : ((a : Int) != 0) = true := bne_iff_ne.2 (by omega)
                have c1 := (HN.out.below HWZ.out).cell (zsC_at HLN.out han)
                have c2 := (HI.out.below HWZ.out).cell (zsU_at HLN.out han)
                have i3 := fun W => int_at g1 n n a (a : Int) rfl han W
                have i4 := fun W => int_at g2 n n a (a : Int) rfl han W
                obtain ⟨q2, hq2⟩ : ∃ q, cnt (nds l) (a : Int) = q := ⟨_, rfl⟩
                have hur := up_range (l := nds l) (by rw [HLN.out]; exact hnp) (a : Int)
                rw [HLN.out] at hur
                obtain ⟨a2, ha2⟩ : ∃ b : Nat, pUp (nds l) (a : Int) = (b : Int) := ⟨(pUp (nds l) (a : Int)).toNat, by omega⟩
                rw [hq2] at c1
                rw [ha2] at c2
                have ha2n : a2 < n := by omega
                have HQ2 := hide hq2
                have HA2 := hide ha2
                clear hq2 ha2 hur
                by_cases hqz : q2 = 0
                · have hqzb : ((q2 : Int) == 0) = true := beq_iff_eq.2 (by omega)
                  have hRe : R = false := by
                    rw [← HR.out]
                    exact ck_no_up (i := i) (k := k) (by rw [HLN.out]; exact hin) (by omega) (by rw [HXR.out]; exact HK2.out) (by rw [HQ.out, HQ1.out]; omega) HUP.out (by rw [← HIT.out]; omega) (.inr (by rw [← HIT.out, HQ2.out, hqz]))
                  subst hRe
                  clear hqz ha
                  go_wp2_with fail
                  go_ret
                  exact ⟨rfl, HWWZ.out⟩
                · have hqzb : ((q2 : Int) == 0) = false := beq_eq_false_iff_ne.2 (by omega)
                  have HIT2 : Hid ((a2 : Int) = itr (pUp (nds l)) (k + 1) (i : Int)) := hide (by
                    show _ = pUp (nds l) (itr (pUp (nds l)) k (i : Int))
                    rw [← HIT.out, HA2.out])
                  have HUP2 : Hid (Up (nds l) (i : Int) (k + 1)) := hide (fun j hj => by
                    rcases Nat.lt_or_ge j k with h | h
                    · exact HUP.out j h
                    · obtain rfl : j = k := by omega
                      rw [← HIT.out, HQ2.out]
                      exact ⟨by omega, hqz⟩)
                  clear hqz ha
                  go_wp2_with fail
                  go_roundw
                  case rel => exact ⟨k + 1, a2, by omega, ha2n, rfl, by go_num, HIT2, HUP2, hide (by trivial)⟩
                  case measure => simp [intOf]; omega
            · have hlt5 : ¬ (k : Int) < (n : Int) := by omega
              have hlt6 : decide ((k : Int) < (n : Int)) = false := decide_eq_false hlt5
              by_cases ha : a = 0
              · skip
                have HA0 : Hid ((a : Int) = 0) := hide (by omega)
                have hab : ((a : Int) != 0) = false := by rw [HA0.out]; rfl
                clear ha
                go_wp2_with fail
                go_roundw
                case rel =>
                  refine ⟨i + 1, by omega, by omega, by go_num, hide (fun j hj => ?_), hide (fun j hj h0 hjk hjc => ?_), HWZ⟩
                  · rcases Nat.lt_or_ge j i with h | h
                    · exact HA.out j h
                    · obtain rfl : j = i := by omega
                      exact HLI.out
                  · rcases Nat.lt_or_ge j i with h | h
                    · exact HU.out j h h0 hjk hjc
                    · obtain rfl : j = i := by omega
                      exact ⟨k, by rw [← HIT.out]; exact HA0.out, HUP.out⟩
                case measure => simp [intOf]; omega
              · have hab : ((a : Int) != 0) = true := bne_iff_ne.2 (by omega)
                have hRe : R = false := by
                  rw [← HR.out]
                  exact ck_no_up (i := i) (k := k) (by rw [HLN.out]; exact hin) (by omega) (by rw [HXR.out]; exact HK2.out) (by rw [HQ.out, HQ1.out]; omega) HUP.out (by rw [← HIT.out]; omega) (.inl (by rw [HLN.out]; omega))
                subst hRe
                clear ha
                go_wp2_with fail
                go_ret
                exact ⟨rfl, HWWZ.out⟩
        · have hlt : ¬ (i : Int) < (n : Int) := by omega
          obtain rfl : n = i := by omega
          have hRe : R = true := by
            rw [← HR.out]
            refine ck_yes (by rw [HLN.out]; omega) (by rw [HLN.out]; omega) HALL.out (List.all_eq_true.2 fun j hj => HA.out j (by have := List.mem_range.1 hj; rw [HLN.out] at this; exact this)) (fun j hj => HU.out j (by rw [HLN.out] at hj; exact hj))
          subst hRe
          go_wp2_with fail
          go_ret
          exact ⟨rfl, HWW.out⟩
end Go.Proofs.Ytnhfpaobocbieaa
