/- PathClean's walk. -/
import Derived.Test.YtfggoleghpicfaaDoorLawJ
namespace Go.Proofs.YtfggoleghpicfaaDoor
open Go.RowKit
set_option linter.unusedVariables false

def dd : Bs := [46, 46]
def leadB (ps : List Bs) (i : Nat) : Bool := (ps.take i).all fun k => k == [46, 46]
theorem leadB_zero (ps : List Bs) : leadB ps 0 = true := rfl
theorem leadB_succ (ps : List Bs) (i : Nat) (h : i < ps.length) : leadB ps (i + 1) = (leadB ps i && ps[i] == [46, 46]) := by
  unfold leadB; rw [List.take_succ_eq_append_getElem h, List.all_append]; simp
theorem clean_parts {root : Bool} {ks : List Bs} (h : Inv root ks) (i : Nat) (hi : i < (partsOf root ks).length) :
    (partsOf root ks)[i] ≠ [] ∧ ((partsOf root ks)[i] = [46] → (partsOf root ks).length ≤ 1) ∧ ((partsOf root ks)[i] = [46, 46] → root = false ∧ leadB (partsOf root ks) i = true) := by
  by_cases hc : root = false ∧ ks = []
  · have e : partsOf root ks = [[46]] := by unfold partsOf; rw [if_pos hc]
    simp only [e] at hi ⊢
    have : i = 0 := by simpa using hi
    subst this
    exact ⟨by simp, fun _ => by simp, fun e => by simp at e⟩
  · have e : partsOf root ks = ks := by unfold partsOf; rw [if_neg hc]
    simp only [e] at hi ⊢
    have hp := h.part ks[i] (List.getElem_mem _)
    refine ⟨hp.1.1, fun e => absurd e hp.2, fun e2 => ?_⟩
    obtain ⟨m, rest, rfl, h1, h2⟩ := h
    have him : i < m := by
      rcases Nat.lt_or_ge i m with g | g
      · exact g
      · have : (List.replicate m ([46, 46] : Bs) ++ rest)[i] = rest[i - m]'(by simp at hi; omega) := by
          rw [List.getElem_append_right (by simpa using g)]; simp
        rw [this] at e2
        exact absurd e2 (h1 _ (List.getElem_mem _)).2.2
    refine ⟨?_, ?_⟩
    · cases root
      · rfl
      · have := h2 rfl; omega
    · unfold leadB
      rw [List.take_append_of_le_length (by simp; omega), List.take_replicate, List.all_replicate]
      simp
set_option maxRecDepth 10000 in
set_option maxHeartbeats 8000000 in
theorem clean_law (p : Bs) (w : World) (hS : Std w) :
    Calls Tryd.prog 4 #[.string ⟨p.toArray⟩] w fun e w' => e = .returned (.bool true) ∧ Below w.heap.size w w' := by
  have HS := hide hS
  clear hS
  by_cases h1 : 500 < p.length
  · have g1 : (500 : Int) < (p.length : Int) := by omega
    have HH := hide (heads_any w HS.out)
    go_enter Tryd.func4, Tryd.ntmps4
    go_wp2_with fail
    refine HH.out.mono ?_
    rintro e wh ⟨rfl, kh⟩
    have KH := hide kh
    clear kh
    go_wp2
    go_ret
    exact ⟨rfl, KH.out⟩
  have g1 : ¬ (500 : Int) < (p.length : Int) := by omega
  have hpl : p.length ≤ 500 := by omega
  rcases p with _ | ⟨y, u⟩
  · have hp0 : ¬ (0 : Int) < 0 := by omega
    clear h1
    have hHS := HS.out
    have hrt : rooted [] = false := rooted_nil
    have hpr := parts_clean []
    rw [hrt] at hpr
    have hinv := cleaned_inv [] false
    have hCP := fun i hi => clean_parts hinv i hi
    have HCC := hide (clean_clean [])
    have hne := clean_ne []
    have hrc := rooted_clean []
    rw [hrt] at hrc
    have hlc := clean_len []
    have HC0 := hide (clean_l [] w hHS (by omega))
    have hln := parts_le (clean [])
    clear hrt hinv
    generalize partsOf false (cleaned [] false) = ps at hpr hCP
    have HPR := hide hpr
    rw [hpr] at hln
    have HCP := hide hCP
    have HNE := hide hne
    have HRC := hide hrc
    have hlc2 : (clean []).length ≤ 2000 := by omega
    clear hpr hCP hne hrc hHS hlc
    generalize clean [] = cl at HCC HC0 HPR HNE HRC hln hlc2
    go_enter Tryd.func4, Tryd.ntmps4
    go_wp2_with fail
    refine HC0.out.mono ?_
    rintro e w1 ⟨rfl, k1⟩
    have K1 := hide k1
    clear k1
    go_wp2_with fail
    refine (parts_n cl ps HPR.out _ (HS.out.below K1.out) (by omega)).mono ?_
    rintro e w2 ⟨A, c, rfl, hO, k2⟩
    have K2 := hide (below_more K1.out (Nat.le_refl _) k2)
    have HR := hide hO.rd
    clear k2 hO HC0 HPR
    go_wp2
    go_loop [6, 7] (fun ld i => ∃ k : Nat, k ≤ ps.length ∧ i = .int .i64 k ∧ ld = .bool (leadB ps k)) (fun _ i => ps.length - (intOf i).toNat)
    case atStart => exact ⟨0, Nat.zero_le _, rfl, by rw [leadB_zero]⟩
    case round =>
      obtain ⟨k, hk, rfl, rfl⟩ := hrel
      by_cases hlt : k < ps.length
      · obtain ⟨ad, u, rfl, _, hu, hcell⟩ := HR.out.at_ hlt
        rw [svs_get ps k hlt] at hu
        injection hu with hu
        subst hu
        unfold sv at hcell
        obtain ⟨c1, c2, c3⟩ := HCP.out k hlt
        have hsuc := leadB_succ ps k hlt
        generalize ps[k] = x at hcell c1 c2 c3 hsuc
        have he0 : x.isEmpty = false := by cases x with
          | nil => exact absurd rfl c1
          | cons a t => rfl
        clear c1
        by_cases hx1 : x = [46]
        · have hl1 := c2 hx1
          subst hx1
          have hl2 : ¬ (1 : Int) < (ps.length : Int) := by omega
          have HSU := hide hsuc
          clear c2 c3 hsuc
          have hS2 : Hid (leadB ps (k + 1) = false) := hide (by rw [HSU.out]; simp)
          go_wp2
          go_round
          case rel => exact ⟨k + 1, by omega, by go_num, by rw [hS2.out]⟩
          case measure => simp [intOf]; omega
        · have hb1 : (x == [46]) = false := beq_eq_false_iff_ne.2 hx1
          by_cases hx2 : x = [46, 46]
          · obtain ⟨r0, r1⟩ := c3 hx2
            subst hx2
            have hS2 : Hid (leadB ps (k + 1) = true) := hide (by rw [hsuc, r1]; rfl)
            clear c2 c3 hsuc hx1 r0
            go_wp2
            go_round
            case rel => exact ⟨k + 1, by omega, by go_num, by rw [hS2.out, r1]⟩
            case measure => simp [intOf]; omega
          · have hb2 : (x == [46, 46]) = false := beq_eq_false_iff_ne.2 hx2
            have hS2 : Hid (leadB ps (k + 1) = false) := hide (by rw [hsuc, hb2]; simp)
            clear c2 c3 hsuc hx1 hx2
            go_wp2
            go_round
            case rel => exact ⟨k + 1, by omega, by go_num, by rw [hS2.out]⟩
            case measure => simp [intOf]; omega
      · have HC1 := hide (fun V (hV : Std V) => clean_n cl cl HCC.out V hV (by omega))
        rcases cl with _ | ⟨z, v⟩
        · exact absurd rfl HNE.out
        have hself : ((z :: v : Bs) == (z :: v)) = true := beq_self_eq_true _
        have hz0 := at0 z v
        have h47z := toNat47 z
        have hlv : (0 : Int) < (v.length : Int) + 1 := by omega
        have hzr : (z == 47) = false := by have := HRC.out; rw [rooted_cons] at this; exact this
        rw [hzr] at h47z
        clear hzr
        go_wp2_with fail
        refine (HC1.out _ (HS.out.below K2.out)).mono ?_
        rintro e w3 ⟨rfl, k3⟩
        have K3 := hide (below_more K2.out (Nat.le_refl _) k3)
        clear k3
        go_wp2_with fail
        refine (heads_any _ (HS.out.below K3.out)).mono ?_
        rintro e w4 ⟨rfl, k4⟩
        have K4 := hide (below_more K3.out (Nat.le_refl _) k4)
        clear k4
        go_wp2
        go_ret
        exact ⟨rfl, K4.out⟩
  · have g1' : (u.length : Int) + 1 ≤ 500 := by simp at g1; omega
    have hby := at0 y u
    have h47y := toNat47 y
    have hb0 : (0 : Int) < (u.length : Int) + 1 := by omega
    cases hy : (y == 47)
    · rw [hy] at h47y
      clear h1
      have hHS := HS.out
      have hrt : rooted (y :: u) = false := (by rw [rooted_cons]; exact hy)
      have hpr := parts_clean (y :: u)
      rw [hrt] at hpr
      have hinv := cleaned_inv (y :: u) false
      have hCP := fun i hi => clean_parts hinv i hi
      have HCC := hide (clean_clean (y :: u))
      have hne := clean_ne (y :: u)
      have hrc := rooted_clean (y :: u)
      rw [hrt] at hrc
      have hlc := clean_len (y :: u)
      have HC0 := hide (clean_l (y :: u) w hHS (by omega))
      have hln := parts_le (clean (y :: u))
      clear hrt hinv
      generalize partsOf false (cleaned (y :: u) false) = ps at hpr hCP
      have HPR := hide hpr
      rw [hpr] at hln
      have HCP := hide hCP
      have HNE := hide hne
      have HRC := hide hrc
      have hlc2 : (clean (y :: u)).length ≤ 2000 := by omega
      clear hpr hCP hne hrc hHS hlc
      generalize clean (y :: u) = cl at HCC HC0 HPR HNE HRC hln hlc2
      go_enter Tryd.func4, Tryd.ntmps4
      go_wp2_with fail
      refine HC0.out.mono ?_
      rintro e w1 ⟨rfl, k1⟩
      have K1 := hide k1
      clear k1
      go_wp2_with fail
      refine (parts_n cl ps HPR.out _ (HS.out.below K1.out) (by omega)).mono ?_
      rintro e w2 ⟨A, c, rfl, hO, k2⟩
      have K2 := hide (below_more K1.out (Nat.le_refl _) k2)
      have HR := hide hO.rd
      clear k2 hO HC0 HPR
      go_wp2
      go_loop [6, 7] (fun ld i => ∃ k : Nat, k ≤ ps.length ∧ i = .int .i64 k ∧ ld = .bool (leadB ps k)) (fun _ i => ps.length - (intOf i).toNat)
      case atStart => exact ⟨0, Nat.zero_le _, rfl, by rw [leadB_zero]⟩
      case round =>
        obtain ⟨k, hk, rfl, rfl⟩ := hrel
        by_cases hlt : k < ps.length
        · obtain ⟨ad, u, rfl, _, hu, hcell⟩ := HR.out.at_ hlt
          rw [svs_get ps k hlt] at hu
          injection hu with hu
          subst hu
          unfold sv at hcell
          obtain ⟨c1, c2, c3⟩ := HCP.out k hlt
          have hsuc := leadB_succ ps k hlt
          generalize ps[k] = x at hcell c1 c2 c3 hsuc
          have he0 : x.isEmpty = false := by cases x with
            | nil => exact absurd rfl c1
            | cons a t => rfl
          clear c1
          by_cases hx1 : x = [46]
          · have hl1 := c2 hx1
            subst hx1
            have hl2 : ¬ (1 : Int) < (ps.length : Int) := by omega
            have HSU := hide hsuc
            clear c2 c3 hsuc
            have hS2 : Hid (leadB ps (k + 1) = false) := hide (by rw [HSU.out]; simp)
            go_wp2
            go_round
            case rel => exact ⟨k + 1, by omega, by go_num, by rw [hS2.out]⟩
            case measure => simp [intOf]; omega
          · have hb1 : (x == [46]) = false := beq_eq_false_iff_ne.2 hx1
            by_cases hx2 : x = [46, 46]
            · obtain ⟨r0, r1⟩ := c3 hx2
              subst hx2
              have hS2 : Hid (leadB ps (k + 1) = true) := hide (by rw [hsuc, r1]; rfl)
              clear c2 c3 hsuc hx1 r0
              go_wp2
              go_round
              case rel => exact ⟨k + 1, by omega, by go_num, by rw [hS2.out, r1]⟩
              case measure => simp [intOf]; omega
            · have hb2 : (x == [46, 46]) = false := beq_eq_false_iff_ne.2 hx2
              have hS2 : Hid (leadB ps (k + 1) = false) := hide (by rw [hsuc, hb2]; simp)
              clear c2 c3 hsuc hx1 hx2
              go_wp2
              go_round
              case rel => exact ⟨k + 1, by omega, by go_num, by rw [hS2.out]⟩
              case measure => simp [intOf]; omega
        · have HC1 := hide (fun V (hV : Std V) => clean_n cl cl HCC.out V hV (by omega))
          rcases cl with _ | ⟨z, v⟩
          · exact absurd rfl HNE.out
          have hself : ((z :: v : Bs) == (z :: v)) = true := beq_self_eq_true _
          have hz0 := at0 z v
          have h47z := toNat47 z
          have hlv : (0 : Int) < (v.length : Int) + 1 := by omega
          have hzr : (z == 47) = false := by have := HRC.out; rw [rooted_cons] at this; exact this
          rw [hzr] at h47z
          clear hzr
          go_wp2_with fail
          refine (HC1.out _ (HS.out.below K2.out)).mono ?_
          rintro e w3 ⟨rfl, k3⟩
          have K3 := hide (below_more K2.out (Nat.le_refl _) k3)
          clear k3
          go_wp2_with fail
          refine (heads_any _ (HS.out.below K3.out)).mono ?_
          rintro e w4 ⟨rfl, k4⟩
          have K4 := hide (below_more K3.out (Nat.le_refl _) k4)
          clear k4
          go_wp2
          go_ret
          exact ⟨rfl, K4.out⟩
    · rw [hy] at h47y
      clear h1
      have hHS := HS.out
      have hrt : rooted (y :: u) = true := (by rw [rooted_cons]; exact hy)
      have hpr := parts_clean (y :: u)
      rw [hrt] at hpr
      have hinv := cleaned_inv (y :: u) true
      have hCP := fun i hi => clean_parts hinv i hi
      have HCC := hide (clean_clean (y :: u))
      have hne := clean_ne (y :: u)
      have hrc := rooted_clean (y :: u)
      rw [hrt] at hrc
      have hlc := clean_len (y :: u)
      have HC0 := hide (clean_l (y :: u) w hHS (by omega))
      have hln := parts_le (clean (y :: u))
      clear hrt hinv
      generalize partsOf true (cleaned (y :: u) true) = ps at hpr hCP
      have HPR := hide hpr
      rw [hpr] at hln
      have HCP := hide hCP
      have HNE := hide hne
      have HRC := hide hrc
      have hlc2 : (clean (y :: u)).length ≤ 2000 := by omega
      clear hpr hCP hne hrc hHS hlc
      generalize clean (y :: u) = cl at HCC HC0 HPR HNE HRC hln hlc2
      go_enter Tryd.func4, Tryd.ntmps4
      go_wp2_with fail
      refine HC0.out.mono ?_
      rintro e w1 ⟨rfl, k1⟩
      have K1 := hide k1
      clear k1
      go_wp2_with fail
      refine (parts_n cl ps HPR.out _ (HS.out.below K1.out) (by omega)).mono ?_
      rintro e w2 ⟨A, c, rfl, hO, k2⟩
      have K2 := hide (below_more K1.out (Nat.le_refl _) k2)
      have HR := hide hO.rd
      clear k2 hO HC0 HPR
      go_wp2
      go_loop [6, 7] (fun ld i => ∃ k : Nat, k ≤ ps.length ∧ i = .int .i64 k ∧ ld = .bool (leadB ps k)) (fun _ i => ps.length - (intOf i).toNat)
      case atStart => exact ⟨0, Nat.zero_le _, rfl, by rw [leadB_zero]⟩
      case round =>
        obtain ⟨k, hk, rfl, rfl⟩ := hrel
        by_cases hlt : k < ps.length
        · obtain ⟨ad, u, rfl, _, hu, hcell⟩ := HR.out.at_ hlt
          rw [svs_get ps k hlt] at hu
          injection hu with hu
          subst hu
          unfold sv at hcell
          obtain ⟨c1, c2, c3⟩ := HCP.out k hlt
          have hsuc := leadB_succ ps k hlt
          generalize ps[k] = x at hcell c1 c2 c3 hsuc
          have he0 : x.isEmpty = false := by cases x with
            | nil => exact absurd rfl c1
            | cons a t => rfl
          clear c1
          by_cases hx1 : x = [46]
          · have hl1 := c2 hx1
            subst hx1
            have hl2 : ¬ (1 : Int) < (ps.length : Int) := by omega
            have HSU := hide hsuc
            clear c2 c3 hsuc
            have hS2 : Hid (leadB ps (k + 1) = false) := hide (by rw [HSU.out]; simp)
            go_wp2
            go_round
            case rel => exact ⟨k + 1, by omega, by go_num, by rw [hS2.out]⟩
            case measure => simp [intOf]; omega
          · have hb1 : (x == [46]) = false := beq_eq_false_iff_ne.2 hx1
            by_cases hx2 : x = [46, 46]
            · obtain ⟨r0, r1⟩ := c3 hx2
              subst hx2
              cases r0
            · have hb2 : (x == [46, 46]) = false := beq_eq_false_iff_ne.2 hx2
              have hS2 : Hid (leadB ps (k + 1) = false) := hide (by rw [hsuc, hb2]; simp)
              clear c2 c3 hsuc hx1 hx2
              go_wp2
              go_round
              case rel => exact ⟨k + 1, by omega, by go_num, by rw [hS2.out]⟩
              case measure => simp [intOf]; omega
        · have HC1 := hide (fun V (hV : Std V) => clean_n cl cl HCC.out V hV (by omega))
          rcases cl with _ | ⟨z, v⟩
          · exact absurd rfl HNE.out
          have hself : ((z :: v : Bs) == (z :: v)) = true := beq_self_eq_true _
          have hz0 := at0 z v
          have h47z := toNat47 z
          have hlv : (0 : Int) < (v.length : Int) + 1 := by omega
          have hzr : (z == 47) = true := by have := HRC.out; rw [rooted_cons] at this; exact this
          rw [hzr] at h47z
          clear hzr
          go_wp2_with fail
          refine (HC1.out _ (HS.out.below K2.out)).mono ?_
          rintro e w3 ⟨rfl, k3⟩
          have K3 := hide (below_more K2.out (Nat.le_refl _) k3)
          clear k3
          go_wp2_with fail
          refine (heads_any _ (HS.out.below K3.out)).mono ?_
          rintro e w4 ⟨rfl, k4⟩
          have K4 := hide (below_more K3.out (Nat.le_refl _) k4)
          clear k4
          go_wp2
          go_ret
          exact ⟨rfl, K4.out⟩
theorem clean_b (p : ByteArray) (w : World) (hS : Std w) : Calls Tryd.prog 4 #[.string p] w fun e w' => e = .returned (.bool true) ∧ Below w.heap.size w w' := by
  obtain ⟨l, rfl⟩ := bs_of p
  exact clean_law l w hS
#print axioms clean_b
end Go.Proofs.YtfggoleghpicfaaDoor
