/- The law ShaChains. -/
import Derived.Test.YtelfdgliogaleaaDoorShaZ
namespace Go.Proofs.YtelfdgliogaleaaDoor
open Go.RowKit
set_option linter.unusedVariables false
theorem own_empty (w : World) : (w.alloc (.cells #[] 5)).ownsRow w.heap.size 5 1 (.slice (some ⟨w.heap.size, 0, none⟩) 0 0) 0 [] :=
  ⟨rfl, .inr ⟨w.heap.size, 0, #[], rfl, Nat.le_refl _, Blk.new _ _ _, Nat.le_refl _, Nat.zero_le _, rfl, by simp⟩⟩
theorem own_caps {w : World} {base : Nat} {A : Option Addr} {n m c : Nat} {xs : List Value} (h : w.ownsRow base 5 1 (.slice A m c) n xs) : n ≤ c := by
  rcases h.2 with ⟨h, h0⟩ | ⟨g, cap, cur, h, _, _, hc, _⟩
  · injection h; omega
  · injection h; omega
set_option maxRecDepth 10000 in
set_option maxHeartbeats 4000000 in
theorem chains_law (A B : Option Addr) (n c m d : Nat) (a b : List UInt8) (w : World) (ha : Rd w A n a) (hc : n ≤ c) (hb : Rd w B m b) (hd : m ≤ d) (hc2 : c ≤ maxLen) (hd2 : d ≤ maxLen) (hT : Tabs w) :
    Calls Tryd.prog 5 #[.slice A n c, .slice B m d] w fun e w' => e = .returned (.bool true) ∧ Below w.heap.size w w' := by
  obtain ⟨i0, hi, hz0, hz1, hz2⟩ := info_parts info5
  unfold maxLen at hc2 hd2
  have HT := hide hT
  have HA := hide ha
  have HB := hide hb
  clear hT ha hb
  by_cases hn : 500 < n
  · have hn1 : (500 : Int) < (n : Int) := by omega
    go_enter Tryd.func5, Tryd.ntmps5
    go_wp2_with fail
    refine (heads_any _ HT.out).mono ?_
    rintro e w1 ⟨rfl, h1⟩
    have H1 := hide h1
    clear h1
    go_wp2_with fail
    go_ret
    exact ⟨rfl, H1.out⟩
  have hn1 : ¬ (500 : Int) < (n : Int) := by omega
  by_cases hm : 500 < m
  · have hm1 : (500 : Int) < (m : Int) := by omega
    go_enter Tryd.func5, Tryd.ntmps5
    go_wp2_with fail
    refine (heads_any _ HT.out).mono ?_
    rintro e w1 ⟨rfl, h1⟩
    have H1 := hide h1
    clear h1
    go_wp2_with fail
    go_ret
    exact ⟨rfl, H1.out⟩
  have hm1 : ¬ (500 : Int) < (m : Int) := by omega
  go_enter Tryd.func5, Tryd.ntmps5
  go_wp2_with fail
  refine (chain_any A B n c m d a b _ HA.out hc (by omega) HB.out hd (by omega) HT.out.1 HT.out.2.1 HT.out.2.2).mono ?_
  rintro e w1 ⟨A1, c1, rfl, ho1, hb1⟩
  have HO1 := hide ho1
  have HB1 := hide hb1
  have hsz1 := hb1.size
  have hE := hide (own_empty w1)
  have hra := hide (Reads.alloc (o := .cells #[] 5) (HA.out.below hb1) hsz1)
  clear ho1 hb1
  go_wp2_with (at_builtin; (refine wpList_append_any _ rfl (.tmp 17) (.tmp 18) 22 rfl w1.heap.size 5 i0 _ 1 1 Tryd.underlying22 hi hz0 hz1 hz2 rfl (by omega) (.slice (some ⟨w1.heap.size, 0, none⟩) 0 0) 0 [] rfl hE.out w.heap.size A n c (bv a) rfl hra.out (bv_one _) (by unfold maxLen; omega) (by omega) (by simp) ?_))
  intro v2 w2 ho2 hg2 hat2
  have hbb2 : Below w1.heap.size w1 w2 := (bl_alloc w1 (.cells #[] 5)).grown hg2 (by simp) (fun g hg => by simp [Value.ownBlock] at hg; omega)
  have HB2 := hide hbb2
  obtain ⟨A2, c2, rfl⟩ := own_slice ho2
  have HO2 := hide ho2
  have hrb := hide (HB.out.below (HB1.out.trans (hbb2.mono hsz1)))
  have hsz2 := hbb2.size
  clear ho2 hg2 hat2 hbb2
  go_wp2_with (at_builtin; (refine wpList_append_any _ rfl (.tmp 19) (.tmp 20) 22 rfl w1.heap.size 5 i0 _ 1 1 Tryd.underlying22 hi hz0 hz1 hz2 rfl (by omega) (.slice A2 n c2) n (bv a) rfl HO2.out w.heap.size B m d (bv b) rfl hrb.out (bv_one _) (by unfold maxLen; omega) (by omega) hsz2 ?_))
  intro v3 w3 ho3 hg3 hat3
  have hbb3 : Below w1.heap.size w1 w3 := HB2.out.grown hg3 hsz2 (fun g hg => (HO2.out.lt g hg).1)
  have HB3 := hide hbb3
  rw [← bv_append] at ho3
  obtain ⟨A3, c3, rfl⟩ := own_slice ho3
  have HO3 := hide ho3
  have hcap := own_caps ho3
  clear ho3 hg3 hat3 hbb3
  have hT3 := HT.out.below (HB1.out.trans (HB3.out.mono hsz1))
  go_wp2_with fail
  refine (sumc_any A3 (n + m) c3 (a ++ b) _ (Reads.of_own HO3.out) hcap (by omega) hT3.1 hT3.2.1 hT3.2.2).mono ?_
  rintro e w4 ⟨A4, c4, rfl, ho4, hb4⟩
  have HO4 := hide ho4
  have HO1' := hide (own_below (own_below HO1.out HB3.out) hb4)
  have HB4 := hide (below_more (HB1.out.trans (HB3.out.mono hsz1)) (Nat.le_refl _) hb4)
  clear ho4 hb4 hT3
  go_wp2_with fail
  refine (same_any A1 A4 32 32 c1 c4 (sumL (a ++ b)) (sumL (a ++ b)) _ _ _ (Reads.of_own HO1'.out) (Reads.of_own HO4.out)).mono ?_
  rintro e w5 ⟨rfl, rfl⟩
  rw [show (sumL (a ++ b) == sumL (a ++ b)) = true from beq_self_eq_true (sumL (a ++ b))]
  go_wp2_with fail
  refine (heads_any _ (HT.out.below HB4.out)).mono ?_
  rintro e w6 ⟨rfl, h6⟩
  have HB6 := hide (below_more HB4.out (Nat.le_refl _) h6)
  clear h6
  go_wp2_with fail
  go_ret
  exact ⟨rfl, HB6.out⟩
end Go.Proofs.YtelfdgliogaleaaDoor
