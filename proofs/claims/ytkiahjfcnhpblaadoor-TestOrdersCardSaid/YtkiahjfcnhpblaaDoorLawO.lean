/- The law TestOrders. -/
import Derived.Test.YtkiahjfcnhpblaaDoorHeads
namespace Go.Proofs.YtkiahjfcnhpblaaDoor
open Go.RowKit
open Go.Maps
set_option linter.unusedVariables false
theorem cmpR_of (op a b : Bs) (f : Nat) (h1 : op ≠ [61]) (h2 : op ≠ [33, 61]) (h : cmpF op = some f) : cmpR op a b = if numB a = true ∧ numB b = true then (cmpB f (numV a) (numV b), 0) else (false, 32) := by
  unfold cmpR; rw [if_neg h1, if_neg h2, h]
set_option maxRecDepth 100000 in
set_option maxHeartbeats 8000000 in
theorem orders_law (a b : Bs) (w : World) (hS : Std w) : Calls Tryd.prog 5 #[.string ⟨a.toArray⟩, .string ⟨b.toArray⟩] w fun e w' => e = .returned (.bool true) ∧ Below w.heap.size w w' := by
  have HS := hide hS
  have K0 := hide (Below.refl w.heap.size w)
  clear hS
  by_cases ha : 600 < a.length
  · have ha' : (600 : Int) < (a.length : Int) := by omega
    go_enter Tryd.func5, Tryd.ntmps5
    go_wp2_with fail
    refine (heads_any _ (HS.out.below K0.out)).mono ?_
    rintro e w9 ⟨rfl, h9⟩
    have H9 := hide (below_more K0.out (Nat.le_refl _) h9)
    clear h9
    go_wp2_with fail
    go_ret
    exact ⟨rfl, H9.out⟩
  have ha' : ¬ (600 : Int) < (a.length : Int) := by omega
  by_cases hb : 600 < b.length
  · have hb' : (600 : Int) < (b.length : Int) := by omega
    go_enter Tryd.func5, Tryd.ntmps5
    go_wp2_with fail
    refine (heads_any _ (HS.out.below K0.out)).mono ?_
    rintro e w9 ⟨rfl, h9⟩
    have H9 := hide (below_more K0.out (Nat.le_refl _) h9)
    clear h9
    go_wp2_with fail
    go_ret
    exact ⟨rfl, H9.out⟩
  have hb' : ¬ (600 : Int) < (b.length : Int) := by omega
  have Xlt := hide (fun W (h : Std W) => compare_any [45, 108, 116] a b W h (by decide) (by omega) (by omega))
  have Elt := cmpR_of [45, 108, 116] a b 32 (by decide) (by decide) rfl
  have Xeq := hide (fun W (h : Std W) => compare_any [45, 101, 113] a b W h (by decide) (by omega) (by omega))
  have Eeq := cmpR_of [45, 101, 113] a b 30 (by decide) (by decide) rfl
  have Xgt := hide (fun W (h : Std W) => compare_any [45, 103, 116] a b W h (by decide) (by omega) (by omega))
  have Egt := cmpR_of [45, 103, 116] a b 34 (by decide) (by decide) rfl
  have Xge := hide (fun W (h : Std W) => compare_any [45, 103, 101] a b W h (by decide) (by omega) (by omega))
  have Ege := cmpR_of [45, 103, 101] a b 35 (by decide) (by decide) rfl
  have Xne := hide (fun W (h : Std W) => compare_any [45, 110, 101] a b W h (by decide) (by omega) (by omega))
  have Ene := cmpR_of [45, 110, 101] a b 31 (by decide) (by decide) rfl
  have Xle := hide (fun W (h : Std W) => compare_any [45, 108, 101] a b W h (by decide) (by omega) (by omega))
  have Ele := cmpR_of [45, 108, 101] a b 33 (by decide) (by decide) rfl
  generalize numV a = m at *
  generalize numV b = n at *
  by_cases hp : numB a = true ∧ numB b = true
  · simp only [if_pos hp] at Elt Eeq Egt Ege Ene Ele
    have hcases : m < n ∨ m = n ∨ n < m := by omega
    rcases hcases with hc | rfl | hc
    · rw [show cmpB 32 _ _ = true by unfold cmpB; simp; try omega] at Elt
      rw [show cmpB 30 _ _ = false by unfold cmpB; simp; try omega] at Eeq
      rw [show cmpB 34 _ _ = false by unfold cmpB; simp; try omega] at Egt
      rw [show cmpB 35 _ _ = false by unfold cmpB; simp; try omega] at Ege
      rw [show cmpB 31 _ _ = true by unfold cmpB; simp; try omega] at Ene
      rw [show cmpB 33 _ _ = true by unfold cmpB; simp; try omega] at Ele
      rw [Elt] at Xlt
      rw [Eeq] at Xeq
      rw [Egt] at Xgt
      rw [Ege] at Xge
      rw [Ene] at Xne
      rw [Ele] at Xle
      clear Elt Eeq Egt Ege Ene Ele hc hp
      go_enter Tryd.func5, Tryd.ntmps5
      go_wp2_with fail
      refine (Xlt.out _ (HS.out.below K0.out)).mono ?_
      rintro e w1 ⟨rfl, k⟩
      have K1 := hide (below_more K0.out (Nat.le_refl _) k)
      clear k
      go_wp2_with fail
      refine (Xeq.out _ (HS.out.below K1.out)).mono ?_
      rintro e w2 ⟨rfl, k⟩
      have K2 := hide (below_more K1.out (Nat.le_refl _) k)
      clear k
      go_wp2_with fail
      refine (Xgt.out _ (HS.out.below K2.out)).mono ?_
      rintro e w3 ⟨rfl, k⟩
      have K3 := hide (below_more K2.out (Nat.le_refl _) k)
      clear k
      go_wp2_with fail
      refine (Xge.out _ (HS.out.below K3.out)).mono ?_
      rintro e w4 ⟨rfl, k⟩
      have K4 := hide (below_more K3.out (Nat.le_refl _) k)
      clear k
      go_wp2_with fail
      refine (Xne.out _ (HS.out.below K4.out)).mono ?_
      rintro e w5 ⟨rfl, k⟩
      have K5 := hide (below_more K4.out (Nat.le_refl _) k)
      clear k
      go_wp2_with fail
      refine (Xle.out _ (HS.out.below K5.out)).mono ?_
      rintro e w6 ⟨rfl, k⟩
      have K6 := hide (below_more K5.out (Nat.le_refl _) k)
      clear k
      go_wp2_with fail
      refine (heads_any _ (HS.out.below K6.out)).mono ?_
      rintro e w9 ⟨rfl, h9⟩
      have H9 := hide (below_more K6.out (Nat.le_refl _) h9)
      clear h9
      go_wp2_with fail
      go_ret
      exact ⟨rfl, H9.out⟩
    · rw [show cmpB 32 _ _ = false by unfold cmpB; simp; try omega] at Elt
      rw [show cmpB 30 _ _ = true by unfold cmpB; simp; try omega] at Eeq
      rw [show cmpB 34 _ _ = false by unfold cmpB; simp; try omega] at Egt
      rw [show cmpB 35 _ _ = true by unfold cmpB; simp; try omega] at Ege
      rw [show cmpB 31 _ _ = false by unfold cmpB; simp; try omega] at Ene
      rw [show cmpB 33 _ _ = true by unfold cmpB; simp; try omega] at Ele
      rw [Elt] at Xlt
      rw [Eeq] at Xeq
      rw [Egt] at Xgt
      rw [Ege] at Xge
      rw [Ene] at Xne
      rw [Ele] at Xle
      clear Elt Eeq Egt Ege Ene Ele hp
      go_enter Tryd.func5, Tryd.ntmps5
      go_wp2_with fail
      refine (Xlt.out _ (HS.out.below K0.out)).mono ?_
      rintro e w1 ⟨rfl, k⟩
      have K1 := hide (below_more K0.out (Nat.le_refl _) k)
      clear k
      go_wp2_with fail
      refine (Xeq.out _ (HS.out.below K1.out)).mono ?_
      rintro e w2 ⟨rfl, k⟩
      have K2 := hide (below_more K1.out (Nat.le_refl _) k)
      clear k
      go_wp2_with fail
      refine (Xgt.out _ (HS.out.below K2.out)).mono ?_
      rintro e w3 ⟨rfl, k⟩
      have K3 := hide (below_more K2.out (Nat.le_refl _) k)
      clear k
      go_wp2_with fail
      refine (Xge.out _ (HS.out.below K3.out)).mono ?_
      rintro e w4 ⟨rfl, k⟩
      have K4 := hide (below_more K3.out (Nat.le_refl _) k)
      clear k
      go_wp2_with fail
      refine (Xne.out _ (HS.out.below K4.out)).mono ?_
      rintro e w5 ⟨rfl, k⟩
      have K5 := hide (below_more K4.out (Nat.le_refl _) k)
      clear k
      go_wp2_with fail
      refine (Xle.out _ (HS.out.below K5.out)).mono ?_
      rintro e w6 ⟨rfl, k⟩
      have K6 := hide (below_more K5.out (Nat.le_refl _) k)
      clear k
      go_wp2_with fail
      refine (heads_any _ (HS.out.below K6.out)).mono ?_
      rintro e w9 ⟨rfl, h9⟩
      have H9 := hide (below_more K6.out (Nat.le_refl _) h9)
      clear h9
      go_wp2_with fail
      go_ret
      exact ⟨rfl, H9.out⟩
    · rw [show cmpB 32 _ _ = false by unfold cmpB; simp; try omega] at Elt
      rw [show cmpB 30 _ _ = false by unfold cmpB; simp; try omega] at Eeq
      rw [show cmpB 34 _ _ = true by unfold cmpB; simp; try omega] at Egt
      rw [show cmpB 35 _ _ = true by unfold cmpB; simp; try omega] at Ege
      rw [show cmpB 31 _ _ = true by unfold cmpB; simp; try omega] at Ene
      rw [show cmpB 33 _ _ = false by unfold cmpB; simp; try omega] at Ele
      rw [Elt] at Xlt
      rw [Eeq] at Xeq
      rw [Egt] at Xgt
      rw [Ege] at Xge
      rw [Ene] at Xne
      rw [Ele] at Xle
      clear Elt Eeq Egt Ege Ene Ele hc hp
      go_enter Tryd.func5, Tryd.ntmps5
      go_wp2_with fail
      refine (Xlt.out _ (HS.out.below K0.out)).mono ?_
      rintro e w1 ⟨rfl, k⟩
      have K1 := hide (below_more K0.out (Nat.le_refl _) k)
      clear k
      go_wp2_with fail
      refine (Xeq.out _ (HS.out.below K1.out)).mono ?_
      rintro e w2 ⟨rfl, k⟩
      have K2 := hide (below_more K1.out (Nat.le_refl _) k)
      clear k
      go_wp2_with fail
      refine (Xgt.out _ (HS.out.below K2.out)).mono ?_
      rintro e w3 ⟨rfl, k⟩
      have K3 := hide (below_more K2.out (Nat.le_refl _) k)
      clear k
      go_wp2_with fail
      refine (Xge.out _ (HS.out.below K3.out)).mono ?_
      rintro e w4 ⟨rfl, k⟩
      have K4 := hide (below_more K3.out (Nat.le_refl _) k)
      clear k
      go_wp2_with fail
      refine (Xne.out _ (HS.out.below K4.out)).mono ?_
      rintro e w5 ⟨rfl, k⟩
      have K5 := hide (below_more K4.out (Nat.le_refl _) k)
      clear k
      go_wp2_with fail
      refine (Xle.out _ (HS.out.below K5.out)).mono ?_
      rintro e w6 ⟨rfl, k⟩
      have K6 := hide (below_more K5.out (Nat.le_refl _) k)
      clear k
      go_wp2_with fail
      refine (heads_any _ (HS.out.below K6.out)).mono ?_
      rintro e w9 ⟨rfl, h9⟩
      have H9 := hide (below_more K6.out (Nat.le_refl _) h9)
      clear h9
      go_wp2_with fail
      go_ret
      exact ⟨rfl, H9.out⟩
  · simp only [if_neg hp] at Elt Eeq Egt Ege Ene Ele
    rw [Elt] at Xlt
    rw [Eeq] at Xeq
    rw [Egt] at Xgt
    rw [Ege] at Xge
    rw [Ene] at Xne
    rw [Ele] at Xle
    clear Elt Eeq Egt Ege Ene Ele hp
    go_enter Tryd.func5, Tryd.ntmps5
    go_wp2_with fail
    refine (Xlt.out _ (HS.out.below K0.out)).mono ?_
    rintro e w1 ⟨rfl, k⟩
    have K1 := hide (below_more K0.out (Nat.le_refl _) k)
    clear k
    go_wp2_with fail
    refine (Xeq.out _ (HS.out.below K1.out)).mono ?_
    rintro e w2 ⟨rfl, k⟩
    have K2 := hide (below_more K1.out (Nat.le_refl _) k)
    clear k
    go_wp2_with fail
    refine (Xgt.out _ (HS.out.below K2.out)).mono ?_
    rintro e w3 ⟨rfl, k⟩
    have K3 := hide (below_more K2.out (Nat.le_refl _) k)
    clear k
    go_wp2_with fail
    refine (Xge.out _ (HS.out.below K3.out)).mono ?_
    rintro e w4 ⟨rfl, k⟩
    have K4 := hide (below_more K3.out (Nat.le_refl _) k)
    clear k
    go_wp2_with fail
    refine (Xne.out _ (HS.out.below K4.out)).mono ?_
    rintro e w5 ⟨rfl, k⟩
    have K5 := hide (below_more K4.out (Nat.le_refl _) k)
    clear k
    go_wp2_with fail
    refine (Xle.out _ (HS.out.below K5.out)).mono ?_
    rintro e w6 ⟨rfl, k⟩
    have K6 := hide (below_more K5.out (Nat.le_refl _) k)
    clear k
    go_wp2_with fail
    refine (heads_any _ (HS.out.below K6.out)).mono ?_
    rintro e w9 ⟨rfl, h9⟩
    have H9 := hide (below_more K6.out (Nat.le_refl _) h9)
    clear h9
    go_wp2_with fail
    go_ret
    exact ⟨rfl, H9.out⟩
theorem orders_b (p q : ByteArray) (w : World) (hS : Std w) : Calls Tryd.prog 5 #[.string p, .string q] w fun e w' => e = .returned (.bool true) ∧ Below w.heap.size w w' := by
  obtain ⟨l, rfl⟩ := bs_of p
  obtain ⟨m, rfl⟩ := bs_of q
  exact orders_law l m w hS
end Go.Proofs.YtkiahjfcnhpblaaDoor
