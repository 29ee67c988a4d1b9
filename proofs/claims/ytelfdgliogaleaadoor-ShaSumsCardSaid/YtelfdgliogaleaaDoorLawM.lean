/- The law ShaSums. -/
import Derived.Test.YtelfdgliogaleaaDoorRefS
namespace Go.Proofs.YtelfdgliogaleaaDoor
open Go.RowKit
set_option linter.unusedVariables false
set_option maxRecDepth 10000 in
set_option maxHeartbeats 4000000 in
theorem sums_law (A : Option Addr) (n c : Nat) (b : List UInt8) (w : World) (hb : Rd w A n b) (hc : n ≤ c) (hT : Tabs w) (hc2 : c ≤ maxLen) :
    Calls Tryd.prog 3 #[.slice A n c] w fun e w' => e = .returned (.bool true) ∧ Below w.heap.size w w' := by
  obtain ⟨i0, hi, hz0, hz1, hz2⟩ := info_parts info5
  unfold maxLen at hc2
  have HT := hide hT
  have HB := hide hb
  clear hT hb
  by_cases hn : 1000 < n
  · have hn1 : (1000 : Int) < (n : Int) := by omega
    go_enter Tryd.func3, Tryd.ntmps3
    go_wp2_with fail
    refine (heads_any _ HT.out).mono ?_
    rintro e w1 ⟨rfl, h1⟩
    have H1 := hide h1
    clear h1
    go_wp2_with fail
    go_ret
    exact ⟨rfl, H1.out⟩
  have hn1 : ¬ (1000 : Int) < (n : Int) := by omega
  have hE := hide (own_empty w)
  have hra := hide (Reads.alloc (o := .cells #[] 5) HB.out (Nat.le_refl _))
  go_enter Tryd.func3, Tryd.ntmps3
  go_wp2_with (at_builtin; (refine wpList_append_any _ rfl (.tmp 8) (.tmp 9) 22 rfl w.heap.size 5 i0 _ 1 1 Tryd.underlying22 hi hz0 hz1 hz2 rfl (by omega) (.slice (some ⟨w.heap.size, 0, none⟩) 0 0) 0 [] rfl hE.out w.heap.size A n c (bv b) rfl hra.out (bv_one _) (by unfold maxLen; omega) (by omega) (by simp) ?_))
  intro v2 w2 ho2 hg2 hat2
  have hbb2 : Below w.heap.size w w2 := (bl_alloc w (.cells #[] 5)).grown hg2 (by simp) (fun g hg => by simp [Value.ownBlock] at hg; omega)
  obtain ⟨A2, c2, rfl⟩ := own_slice ho2
  have HB2 := hide hbb2
  have HO2 := hide ho2
  have hcap2 := own_caps ho2
  have hT2 := HT.out.below hbb2
  have HT2 := hide hT2
  clear ho2 hg2 hat2 hbb2 hT2 hE hra
  go_wp2_with fail
  refine (sumc_any A2 n c2 b _ (Reads.of_own HO2.out) hcap2 (by omega) HT2.out.1 HT2.out.2.1 HT2.out.2.2).mono ?_
  rintro e w3 ⟨A3, c3, rfl, ho3, hb3⟩
  have HO3 := hide ho3
  have HB3 := hide (below_more HB2.out (Nat.le_refl _) hb3)
  have HO2' := hide (own_below HO2.out hb3)
  clear ho3 hb3
  go_wp2_with fail
  refine (rsum_any A n c b _ (HB.out.below HB3.out |>.more HB3.out.size) (by omega)).mono ?_
  rintro e w4 ⟨A4, c4, rfl, ho4, hb4⟩
  have HO4 := hide ho4
  have HB4 := hide (below_more HB3.out (Nat.le_refl _) hb4)
  have HO2'' := hide (own_below HO2'.out hb4)
  have HO3' := hide (own_below HO3.out hb4)
  clear ho4 hb4
  go_wp2_with fail
  refine (same_any A3 A4 32 32 c3 c4 (sumL b) (sumL b) _ _ _ (Reads.of_own HO3'.out) (Reads.of_own HO4.out)).mono ?_
  rintro e w5 ⟨rfl, rfl⟩
  rw [show (sumL b == sumL b) = true from beq_self_eq_true (sumL b)]
  go_wp2_with fail
  refine (pad_any A2 n c2 b _ (Reads.of_own HO2''.out) (by omega)).mono ?_
  rintro e w6 ⟨A6, n6, c6, rfl, hc6, ho6, hb6⟩
  have HO6 := hide ho6
  have HB6 := hide (below_more HB4.out (Nat.le_refl _) hb6)
  have HO26 := hide (own_below HO2''.out hb6)
  clear hc6 ho6 hb6
  go_wp2_with fail
  refine (rpad_any A n c b _ (HB.out.below HB6.out |>.more HB6.out.size) (by omega)).mono ?_
  rintro e w7 ⟨A7, n7, c7, rfl, hc7, ho7, hb7⟩
  have HO7 := hide ho7
  have HO6' := hide (own_below HO6.out hb7)
  have HB7 := hide (below_more HB6.out (Nat.le_refl _) hb7)
  have HO27 := hide (own_below HO26.out hb7)
  clear hc7 ho7 hb7
  go_wp2_with fail
  refine (same_any A6 A7 n6 n7 c6 c7 (padL b) (padL b) _ _ _ (Reads.of_own HO6'.out) (Reads.of_own HO7.out)).mono ?_
  rintro e w8 ⟨rfl, rfl⟩
  rw [show (padL b == padL b) = true from beq_self_eq_true (padL b)]
  go_wp2_with fail
  refine (same_any A2 A n n c2 c b b _ _ _ (Reads.of_own HO27.out) (HB.out.below HB7.out)).mono ?_
  rintro e w9 ⟨rfl, rfl⟩
  rw [show (b == b) = true from beq_self_eq_true b]
  go_wp2_with fail
  refine (heads_any _ (HT.out.below HB7.out)).mono ?_
  rintro e w10 ⟨rfl, h10⟩
  have HB10 := hide (below_more HB7.out (Nat.le_refl _) h10)
  clear h10
  go_wp2_with fail
  go_ret
  exact ⟨rfl, HB10.out⟩
end Go.Proofs.YtelfdgliogaleaaDoor
