/- node.Check. -/
import Derived.Test.YtnhfpaobocbieaaNdLa
namespace Go.Proofs.Ytnhfpaobocbieaa
open Go.RowKit
set_option linter.unusedVariables false
theorem cnt_out {l : List ND} (hr : RefsOk l) {i : Int} (h : i < 0 ∨ (l.length : Int) ≤ i) : cnt l i = 0 := by
  unfold cnt allNames
  rw [List.countP_eq_zero]
  intro y hy
  obtain ⟨d, hd, hyd⟩ := List.mem_flatMap.1 hy
  have := hr d hd y hyd
  simp
  omega
theorem deep_of_links {l : List ND} (hr : RefsOk l) (hp : 0 < l.length) (hl : linksB l = true) : Deep l l.length 0 := by
  have hall : ∀ j, j < l.length → linkB l j = true := fun j hj => List.all_eq_true.1 hl j (List.mem_range.2 hj)
  have h0 : cnt l 0 = 0 := by
    have := hall 0 hp
    unfold linkB at this
    rw [if_pos rfl] at this
    simp only [Bool.and_eq_true, decide_eq_true_eq] at this
    exact this.2
  refine deep_root hp hr h0 fun i hd => ?_
  by_cases hb : i < 0 ∨ (l.length : Int) ≤ i
  · rw [cnt_out hr hb]; omega
  · obtain ⟨m, rfl⟩ : ∃ m : Nat, i = (m : Int) := ⟨i.toNat, by omega⟩
    have hm := hall m (by omega)
    unfold linkB at hm
    by_cases hz : m = 0
    · subst hz
      have : cnt l ((0 : Nat) : Int) = 0 := h0
      omega
    · rw [if_neg hz] at hm
      have hk : (ndAt l (m : Int)).kind = 2 := by unfold isDir at hd; simpa using hd
      simp only [Bool.and_eq_true, decide_eq_true_eq, Bool.not_eq_true', Bool.and_eq_false_iff, Bool.or_eq_false_iff, decide_eq_false_iff_not] at hm
      obtain ⟨h1, h2⟩ := hm
      rcases h2 with h2 | h2
      · exact absurd hk h2
      · have := h2.1
        omega
set_option maxRecDepth 100000 in
set_option maxHeartbeats 8000000 in
theorem check_any (L : Option Addr) (n c : Nat) (l : List DV) (w : World) (hF : FsR w w.heap.size L n l) (hB : FewB l) :
    Calls Try.prog 17 #[.agg #[.slice L n c]] w fun e w' => e = .returned (.bool (checkB (nds l))) ∧ Below w.heap.size w w' := by
  have hl := hF.len
  have hln : (nds l).length = n := by rw [nds_length, hl]
  have h60 : n ≤ 60 := by have := hB.n; omega
  have HX : Hid (Blk (w.alloc (.cells #[.slice L n c] 24)) w.heap.size 24 #[.slice L n c]) := hide (Blk.new w _ _)
  have HB : Hid (Below w.heap.size w (w.alloc (.cells #[.slice L n c] 24))) := hide (on_alloc _ _)
  have HF := hide hF
  have HL := hide hl
  have HLN := hide hln
  have HFEW := hide hB.each
  obtain ⟨R, hR⟩ : ∃ R, checkB (nds l) = R := ⟨_, rfl⟩
  rw [hR]
  have HR := hide hR
  clear hF hB hl hln hR
  have k0 := one_ HX.out
  go_enter Try.func17, Try.ntmps17
  by_cases hz : n = 0
  · have hRe : R = false := by rw [← HR.out]; unfold checkB; rw [HLN.out]; simp [hz]
    subst hRe
    have hz1 : (n : Int) < 1 := by omega
    clear hz
    go_wp2_with fail
    go_ret
    exact ⟨rfl, HB.out⟩
  have hz1 : ¬ ((n : Int) < 1) := by omega
  have hz2 : ¬ ((256 : Int) < (n : Int)) := by omega
  go_wp2_with fail
  clear k0
  go_loopw [18] (fun u wx => ∃ i : Nat, i ≤ n ∧ u = .int .i64 (i : Int) ∧ Hid (∀ j x, j < i → l[j]? = some x → nodeB x.r (n : Int) = true) ∧ Hid (Below w.heap.size w wx) ∧ Hid (Blk wx w.heap.size 24 #[.slice L n c])) (fun i _ => n - (intOf i).toNat)
  case atStart => exact ⟨0, Nat.zero_le _, rfl, hide (fun j x hj => absurd hj (by omega)), HB, HX⟩
  case round =>
    clear HB HX
    obtain ⟨i, hi, rfl, HA, HB, HX⟩ := hrel
    by_cases hin : i < n
    · have hlt : (i : Int) < (n : Int) := by omega
      obtain ⟨g, o, x, rfl, hg, hx, hok, hc⟩ := HF.out.at_ hin
      obtain ⟨d0, d1, d2, d3, d4, d5⟩ := NdCells.below hc hg HB.out
      have h2 : g < wr.heap.size := Nat.lt_of_lt_of_le hg HB.out.size
      have i1 := fun W => nd_at g o n c i (i : Int) rfl hin W
      obtain ⟨WC, hWC⟩ : ∃ W, wr.alloc (.cells #[Value.int .i64 x.r.kind, .int .i64 x.r.mode, .int .i64 x.r.links, .slice x.D x.dn x.dc, .slice x.M x.mn x.mc, .string ⟨x.r.to.toArray⟩] 49) = W := ⟨_, rfl⟩
      have bC : Below wr.heap.size wr WC := by rw [← hWC]; exact on_alloc _ _
      have kC : Blk WC wr.heap.size 49 #[Value.int .i64 x.r.kind, .int .i64 x.r.mode, .int .i64 x.r.links, .slice x.D x.dn x.dc, .slice x.M x.mn x.mc, .string ⟨x.r.to.toArray⟩] := by rw [← hWC]; exact Blk.new wr _ _
      have HX2 := hide (HX.out.below bC HX.out.lt)
      have HB2 := hide (HB.out.trans (bC.mono HB.out.size))
      have XN := hide (node_any x (n : Int) WC ((hok.below HB2.out).more HB2.out.size) (HFEW.out x (List.mem_of_getElem? hx)))
      unfold DV.cs at XN
      have k0 := one_ HX2.out
      obtain ⟨e0, e1, e2, e3, e4, e5⟩ := six kC
      have e9 := kC.lt
      have HXX := hide hx
      clear hx hok hc bC kC HB HX
      go_wp2_with fail
      refine XN.out.mono ?_
      rintro e w3 ⟨rfl, hb⟩
      have HX3 := hide (HX2.out.below hb HX2.out.lt)
      have HB3 := hide (HB2.out.trans (hb.mono HB2.out.size))
      clear hb XN HX2 HB2 k0 e0 e1 e2 e3 e4 e5
      cases hnb : nodeB x.r (n : Int) with
      | false =>
        have hRe : R = false := by
          rw [← HR.out]
          unfold checkB
          have : (nds l).all (fun m => nodeB m ((nds l).length : Int)) = false := by
            rw [Bool.eq_false_iff]
            intro h
            have := List.all_eq_true.1 h x.r (by unfold nds; exact List.mem_map.2 ⟨x, List.mem_of_getElem? HXX.out, rfl⟩)
            rw [HLN.out, hnb] at this; cases this
          rw [this]; simp
        subst hRe
        clear hnb
        go_wp2_with fail
        go_ret
        exact ⟨rfl, HB3.out⟩
      | true =>
        have HNB := hide hnb
        clear hnb
        go_wp2_with fail
        go_roundw
        case rel =>
          refine ⟨i + 1, by omega, by go_num, hide (fun j z hj hzj => ?_), HB3, HX3⟩
          rcases Nat.lt_or_ge j i with h | h
          · exact HA.out j z h hzj
          · obtain rfl : j = i := by omega
            have := HXX.out
            rw [this] at hzj; injection hzj with hzj; subst hzj
            exact HNB.out
        case measure => simp [intOf]; omega
    · have hlt : ¬ ((i : Int) < (n : Int)) := by omega
      obtain rfl : i = n := by omega
      have hallN : ∀ m ∈ nds l, nodeB m ((nds l).length : Int) = true := fun m hm => by
        unfold nds at hm
        obtain ⟨x, hx, rfl⟩ := List.mem_map.1 hm
        obtain ⟨j, hj⟩ := List.mem_iff_getElem?.1 hx
        have hjl : j < l.length := (List.getElem?_eq_some_iff.1 hj).1
        rw [HLN.out]
        exact HA.out j x (by have := HL.out; omega) hj
      have hrefs := refs_of hallN
      have HRF := hide hrefs
      have XL := hide (fun (W : World) (hW : Below w.heap.size w W) => links_any L i c l W ((HF.out.below hW).more hW.size) HFEW.out hrefs h60)
      have k0 := one_ HX.out
      have HCK : Hid (R = (linksB (nds l) && treeB (nds l))) := hide (by
        rw [← HR.out]
        unfold checkB
        rw [List.all_eq_true.2 hallN, HLN.out]
        simp only [show 1 ≤ i by omega, show i ≤ 256 by omega, decide_true, Bool.true_and])
      clear hallN hrefs
      go_wp2_with fail
      refine (XL.out _ HB.out).mono ?_
      rintro e w3 ⟨rfl, hb⟩
      have HX3 := hide (HX.out.below hb HX.out.lt)
      have HB3 := hide (HB.out.trans (hb.mono HB.out.size))
      clear hb XL k0
      have k0 := one_ HX3.out
      cases hlb : linksB (nds l) with
      | false =>
        have hRe : R = false := by rw [HCK.out, hlb]; rfl
        subst hRe
        clear hlb
        go_wp2_with fail
        go_ret
        exact ⟨rfl, HB3.out⟩
      | true =>
        have hRe : R = treeB (nds l) := by rw [HCK.out, hlb]; rfl
        have hdp := deep_of_links HRF.out (by rw [HLN.out]; omega) hlb
        rw [HLN.out] at hdp
        have XT := hide (tree_any L i c l w3 ((HF.out.below HB3.out).more HB3.out.size) HFEW.out HRF.out hdp (by omega) h60)
        rw [← hRe] at XT
        clear hlb hdp hRe
        go_wp2_with fail
        refine XT.out.mono ?_
        rintro e w4 ⟨rfl, hb⟩
        have HB4 := hide (HB3.out.trans (hb.mono HB3.out.size))
        clear hb XT
        go_wp2_with fail
        go_ret
        exact ⟨rfl, HB4.out⟩
end Go.Proofs.Ytnhfpaobocbieaa
