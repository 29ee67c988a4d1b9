/- The law ChainBack. -/
import Derived.Test.YtkiphaagdckkjaaDoorChMm
namespace Go.Proofs.YtkiphaagdckkjaaDoor
open Go.RowKit
set_option linter.unusedVariables false
set_option maxRecDepth 100000 in
set_option maxHeartbeats 8000000 in
theorem back_law (A : Option Addr) (n c : Nat) (l : List RV) (w : World) (h1 : RowR w A n l) (hnm : n ≤ maxLen) (hS : Std w) (hT : Tabs w) :
    Calls Tryd.prog 5 #[.slice A n c] w fun e w' => e = .returned (.bool true) ∧ Below w.heap.size w w' := by
  have XF := hide (few_any A n c l w h1 hnm)
  have H1 := hide h1
  have HS := hide hS
  have HT := hide hT
  have hl := h1.len
  have HL := hide hl
  clear h1 hS hT hl hnm
  cases hf : fewP (l.map RV.r) with
  | false =>
    rw [hf] at XF
    clear hf H1 HL
    go_enter Tryd.func5, Tryd.ntmps5
    go_wp2_with fail
    refine XF.out.mono ?_
    rintro e1 w1 ⟨rfl, hb1⟩
    have HB1 := hide hb1
    have XH := hide (heads_any w1 (HS.out.below hb1) (HT.out.below hb1))
    clear hb1 XF
    go_wp2_with fail
    refine XH.out.mono ?_
    rintro e2 w2 ⟨rfl, hb2⟩
    have HB2 := hide (below_more HB1.out (Nat.le_refl _) hb2)
    clear hb2 XH
    go_wp2_with fail
    go_ret
    exact ⟨rfl, HB2.out⟩
  | true =>
    rw [hf] at XF
    have HF := hide hf
    have hn20 : n ≤ 20 := by
      unfold fewP at hf
      rw [Bool.and_eq_true, decide_eq_true_eq, List.length_map, HL.out] at hf
      exact hf.1
    have hok : okP 0 (numP 0 (l.map RV.r)) := by
      refine ok_num _ _ ?_ (by rw [List.length_map, HL.out]; omega)
      unfold fewP at hf
      rw [Bool.and_eq_true] at hf
      exact hf.2
    have hsc := scanB_all _ hok
    have hln : (numP 0 (l.map RV.r)).length = n := by rw [num_length, List.length_map, HL.out]
    have hall := all_length (numP 0 (l.map RV.r)) zero32
    obtain ⟨N, hN⟩ : ∃ N, numP 0 (l.map RV.r) = N := ⟨_, rfl⟩
    obtain ⟨Lr, hLr⟩ : ∃ L, l.map RV.r = L := ⟨_, rfl⟩
    obtain ⟨BS, hBS⟩ : ∃ b, allP zero32 N = b := ⟨_, rfl⟩
    have XM := hide (fun W (hW : Below w.heap.size w W) => made_any A n c l W (H1.out.below hW) HF.out (HS.out.below hW) (HT.out.below hW))
    unfold RetMade at XM
    rw [hN, hBS] at XM
    rw [hN] at hsc hln hall
    rw [hBS] at hsc hall
    have hver : verP BS = true := by unfold verP; rw [hsc, hall]; simp
    have HSC := hide hsc
    have HLN := hide hln
    have HALL := hide hall
    have HVER := hide hver
    clear hf hok hN hLr hBS hsc hln hall hver H1 HF
    go_enter Tryd.func5, Tryd.ntmps5
    go_wp2_with fail
    refine XF.out.mono ?_
    rintro e1 w1 ⟨rfl, hb1⟩
    have HB1 := hide hb1
    have XM1 := hide (XM.out w1 hb1)
    clear hb1 XF XM
    go_wp2_with fail
    refine XM1.out.mono ?_
    rintro e2 w2 ⟨A2, nb, cb, O, co, lo, rfl, g1, g2, g3, g4, g5, g6, g7⟩
    have HB2 := hide (below_more HB1.out (Nat.le_refl _) g7)
    have hnb : lenP N = nb := by rw [← HALL.out]; exact g1.len
    have HR2 := hide g1
    have HO2 := hide g4
    have HO2e := hide g6
    have XS := hide (scan_any A2 nb cb BS w2 g1 g2 (by omega) (HS.out.below HB2.out) (HT.out.below HB2.out))
    unfold ScanEnd at XS
    rw [HSC.out] at XS
    dsimp only at XS
    rw [hnb] at XS
    have hcb := g2
    clear g1 g2 g4 g5 g6 g7 XM1 hnb
    go_wp2_with fail
    refine XS.out.mono ?_
    rintro e3 w3 ⟨M, mo, D, dn, lm, rfl, g8, g9, g10, g11⟩
    have hlm : lm.length = n := by rw [← HLN.out, ← g9, List.length_map]
    rw [hlm] at g8 ⊢
    have HB3 := hide (below_more HB2.out (Nat.le_refl _) g11)
    have HR3 := hide (rb HR2.out g11)
    have XR := hide (rows_same M O n mo co lm lo w3 g8.row (HO2.out.below g11) (by rw [g9, HO2e.out]) (by omega))
    clear g8 g9 g10 g11 XS hlm HR2 HO2 HO2e
    go_wp2_with fail
    refine XR.out.mono ?_
    rintro e4 w4 ⟨rfl, g12⟩
    have HB4 := hide (below_more HB3.out (Nat.le_refl _) g12)
    have XV := hide (verify_any A2 nb cb BS w4 (rb HR3.out g12) hcb (by omega) (HS.out.below HB4.out) (HT.out.below HB4.out))
    rw [HVER.out] at XV
    clear g12 XR HR3
    go_wp2_with fail
    refine XV.out.mono ?_
    rintro e5 w5 ⟨rfl, g13⟩
    have HB5 := hide (below_more HB4.out (Nat.le_refl _) g13)
    have XH := hide (heads_any w5 (HS.out.below HB5.out) (HT.out.below HB5.out))
    clear g13 XV
    go_wp2_with fail
    refine XH.out.mono ?_
    rintro e6 w6 ⟨rfl, g14⟩
    have HB6 := hide (below_more HB5.out (Nat.le_refl _) g14)
    clear g14 XH
    go_wp2_with fail
    go_ret
    exact ⟨rfl, HB6.out⟩
end Go.Proofs.YtkiphaagdckkjaaDoor
