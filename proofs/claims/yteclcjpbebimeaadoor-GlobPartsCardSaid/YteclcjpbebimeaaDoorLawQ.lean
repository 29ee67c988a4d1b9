/- The law GlobQuotes. -/
import Derived.Test.YteclcjpbebimeaaDoorGlobL
import Derived.Test.YteclcjpbebimeaaDoorHeads
namespace Go.Proofs.YteclcjpbebimeaaDoor
open Go.RowKit
set_option linter.unusedVariables false
set_option maxRecDepth 100000 in
set_option maxHeartbeats 4000000 in
theorem quotes_law (s t : Bs) (w : World) (hS : Std w) : Calls Tryd.prog 3 #[.string ⟨s.toArray⟩, .string ⟨t.toArray⟩] w fun e w' => e = .returned (.bool true) ∧ Below w.heap.size w w' := by
  have HS := hide hS
  have K0 := hide (Below.refl w.heap.size w)
  clear hS
  by_cases hp : 400 < s.length
  · have hp' : (400 : Int) < (s.length : Int) := by omega
    go_enter Tryd.func3, Tryd.ntmps3
    go_wp2_with fail
    refine (heads_any _ (HS.out.below K0.out)).mono ?_
    rintro e w9 ⟨rfl, h9⟩
    have H9 := hide (below_more K0.out (Nat.le_refl _) h9)
    clear h9
    go_wp2_with fail
    go_ret
    exact ⟨rfl, H9.out⟩
  have hp' : ¬ (400 : Int) < (s.length : Int) := by omega
  by_cases hq : 400 < t.length
  · have hq' : (400 : Int) < (t.length : Int) := by omega
    go_enter Tryd.func3, Tryd.ntmps3
    go_wp2_with fail
    refine (heads_any _ (HS.out.below K0.out)).mono ?_
    rintro e w9 ⟨rfl, h9⟩
    have H9 := hide (below_more K0.out (Nat.le_refl _) h9)
    clear h9
    go_wp2_with fail
    go_ret
    exact ⟨rfl, H9.out⟩
  have hq' : ¬ (400 : Int) < (t.length : Int) := by omega
  obtain ⟨q, hqq⟩ : ∃ q, quoteP s = q := ⟨_, rfl⟩
  have e1 := match_quote s t (by omega) (by omega)
  have e2 := match_quote s s (by omega) (by omega)
  have e3 := special_quote s
  have e4 := quote_len s
  rw [hqq] at e1 e2 e3 e4
  rw [show (s == s) = true from by simp] at e2
  have XQ := hide (fun W => quote_n s q hqq (by omega) W)
  have XS := hide (fun W => special_n q false e3 (by omega) W)
  have X2 := hide (fun W => match_n q s true e2 W)
  obtain ⟨v, hv⟩ : ∃ v, (s == t) = v := ⟨_, rfl⟩
  rw [hv] at e1
  have X1 := hide (fun W => match_n q t v e1 W)
  clear e1 e2 e3 e4 hqq
  cases v with
  | true =>
    go_enter Tryd.func3, Tryd.ntmps3
    go_wp2_with fail
    refine (XQ.out _).mono ?_
    rintro e w1 ⟨rfl, k⟩
    have K1 := hide (below_more K0.out (Nat.le_refl _) k)
    clear k 
    go_wp2_with fail
    refine (X1.out _).mono ?_
    rintro e w2 ⟨rfl, k⟩
    have K2 := hide (below_more K1.out (Nat.le_refl _) k)
    clear k 
    go_wp2_with fail
    refine (X2.out _).mono ?_
    rintro e w3 ⟨rfl, k⟩
    have K3 := hide (below_more K2.out (Nat.le_refl _) k)
    clear k 
    go_wp2_with fail
    refine (XS.out _).mono ?_
    rintro e w4 ⟨rfl, k⟩
    have K4 := hide (below_more K3.out (Nat.le_refl _) k)
    clear k 
    go_wp2_with fail
    refine (heads_any _ (HS.out.below K4.out)).mono ?_
    rintro e w9 ⟨rfl, h9⟩
    have H9 := hide (below_more K4.out (Nat.le_refl _) h9)
    clear h9
    go_wp2_with fail
    go_ret
    exact ⟨rfl, H9.out⟩
  | false =>
    go_enter Tryd.func3, Tryd.ntmps3
    go_wp2_with fail
    refine (XQ.out _).mono ?_
    rintro e w1 ⟨rfl, k⟩
    have K1 := hide (below_more K0.out (Nat.le_refl _) k)
    clear k 
    go_wp2_with fail
    refine (X1.out _).mono ?_
    rintro e w2 ⟨rfl, k⟩
    have K2 := hide (below_more K1.out (Nat.le_refl _) k)
    clear k 
    go_wp2_with fail
    refine (X2.out _).mono ?_
    rintro e w3 ⟨rfl, k⟩
    have K3 := hide (below_more K2.out (Nat.le_refl _) k)
    clear k 
    go_wp2_with fail
    refine (XS.out _).mono ?_
    rintro e w4 ⟨rfl, k⟩
    have K4 := hide (below_more K3.out (Nat.le_refl _) k)
    clear k 
    go_wp2_with fail
    refine (heads_any _ (HS.out.below K4.out)).mono ?_
    rintro e w9 ⟨rfl, h9⟩
    have H9 := hide (below_more K4.out (Nat.le_refl _) h9)
    clear h9
    go_wp2_with fail
    go_ret
    exact ⟨rfl, H9.out⟩
theorem quotes_b (a0 a1 : ByteArray) (w : World) (hS : Std w) : Calls Tryd.prog 3 #[.string a0, .string a1] w fun e w' => e = .returned (.bool true) ∧ Below w.heap.size w w' := by
  obtain ⟨l, rfl⟩ := bs_of a0
  obtain ⟨m, rfl⟩ := bs_of a1
  exact quotes_law l m w hS
end Go.Proofs.YteclcjpbebimeaaDoor
