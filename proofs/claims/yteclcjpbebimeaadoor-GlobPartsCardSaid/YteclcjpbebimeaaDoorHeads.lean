/- heads of layer 3. -/
import Derived.Test.YteclcjpbebimeaaDoorGlobT
namespace Go.Proofs.YteclcjpbebimeaaDoor
open Go.RowKit
set_option linter.unusedVariables false
theorem lit_rd (W : World) (ks : List Bs) : Reads (W.alloc (.cells (svs ks).toArray 9)) (W.alloc (.cells (svs ks).toArray 9)).heap.size 1 (some ⟨W.heap.size, 0, none⟩) ks.length (svs ks) := by
  refine ⟨by simp [svs], fun _ => ⟨_, rfl, by simp, ?_⟩⟩
  intro j u hu
  rw [at_add, Nat.zero_add, (Blk.new W 9 (svs ks).toArray).cell j]
  simpa using hu
theorem match_n (p s : Bs) (r : Bool) (e : MatchP p s = r) (w : World) : Calls Tryd.prog 8 #[.string ⟨p.toArray⟩, .string ⟨s.toArray⟩] w fun e w' => e = .returned (.bool r) ∧ Below w.heap.size w w' := by
  subst e; exact Match_any p s w
theorem path_n (p s : Bs) (r : Bool) (e : PathP p s = r) (w : World) (hS : Std w) : Calls Tryd.prog 10 #[.string ⟨p.toArray⟩, .string ⟨s.toArray⟩] w fun e w' => e = .returned (.bool r) ∧ Below w.heap.size w w' := by
  subst e; exact path_any p s w hS
theorem special_n (p : Bs) (r : Bool) (e : specialP p = r) (hp : p.length ≤ 100000) (w : World) : Calls Tryd.prog 9 #[.string ⟨p.toArray⟩] w fun e w' => e = .returned (.bool r) ∧ Below w.heap.size w w' := by
  subst e; exact special_any p hp w
theorem quote_n (s r : Bs) (e : quoteP s = r) (hs : s.length ≤ 100000) (w : World) : Calls Tryd.prog 7 #[.string ⟨s.toArray⟩] w fun e w' => e = .returned (.string ⟨r.toArray⟩) ∧ Below w.heap.size w w' := by
  subst e; exact quote_any s hs w
theorem any_n (ks : List Bs) (s : Bs) (r : Bool) (e : anyP ks s = r) (A : Option Addr) (n c : Nat) (w : World) (hk : ks.length ≤ 1000) (hA : Reads w w.heap.size 1 A n (svs ks)) : Calls Tryd.prog 11 #[.slice A n c, .string ⟨s.toArray⟩] w fun e w' => e = .returned (.bool r) ∧ Below w.heap.size w w' := by
  subst e; exact any_any ks s A n c w hk hA
theorem hh0 : MatchP [91, 33, 97, 45, 99, 93, 63] [100, 120] = true := by kernel_rfl
theorem hh1 : MatchP [91, 33, 97, 45, 99, 93, 63] [98, 120] = false := by kernel_rfl
theorem hh2 : MatchP [97, 42, 92, 42] [97, 98, 42] = true := by kernel_rfl
theorem hh3 : MatchP [97] [97, 98] = false := by kernel_rfl
theorem hh4 : MatchP [91, 93, 45, 93] [93] = true := by kernel_rfl
theorem hh5 : MatchP [91, 97] [91, 97] = true := by kernel_rfl
theorem hh6 : PathP [47, 104, 111, 109, 101, 47, 42, 42, 47, 120] [47, 104, 111, 109, 101, 47, 120] = true := by kernel_rfl
theorem hh7 : PathP [47, 104, 111, 109, 101, 47, 42, 42, 47, 120] [47, 104, 111, 109, 101, 47, 97, 47, 98, 47, 120] = true := by kernel_rfl
theorem hh8 : PathP [47, 104, 111, 109, 101, 47, 42] [47, 104, 111, 109, 101, 47, 97, 47, 98] = false := by kernel_rfl
theorem hh9 : PathP [47] [47] = true := by kernel_rfl
theorem hh10 : specialP [97, 91, 98, 93] = true := by kernel_rfl
theorem hh11 : specialP [97, 92, 42] = false := by kernel_rfl
theorem hhq : quoteP [97, 42, 98] = [97, 92, 42, 98] := by kernel_rfl
theorem hha : anyP [[120], [121, 42]] [121, 122] = true := by kernel_rfl
set_option maxRecDepth 100000 in
set_option maxHeartbeats 4000000 in
theorem heads_any (w : World) (hS : Std w) : Calls Tryd.prog 6 #[] w fun e w' => e = .returned (.bool true) ∧ Below w.heap.size w w' := by
  have HS := hide hS
  have K0 := hide (Below.refl w.heap.size w)
  clear hS
  go_enter Tryd.func6, Tryd.ntmps6
  go_wp2_with fail
  refine (match_n [91, 33, 97, 45, 99, 93, 63] [100, 120] true hh0 _).mono ?_
  rintro e w1 ⟨rfl, k⟩
  have K1 := hide (below_more K0.out (Nat.le_refl _) k)
  clear k K0
  go_wp2_with fail
  refine (match_n [91, 33, 97, 45, 99, 93, 63] [98, 120] false hh1 _).mono ?_
  rintro e w2 ⟨rfl, k⟩
  have K2 := hide (below_more K1.out (Nat.le_refl _) k)
  clear k K1
  go_wp2_with fail
  refine (match_n [97, 42, 92, 42] [97, 98, 42] true hh2 _).mono ?_
  rintro e w3 ⟨rfl, k⟩
  have K3 := hide (below_more K2.out (Nat.le_refl _) k)
  clear k K2
  go_wp2_with fail
  refine (match_n [97] [97, 98] false hh3 _).mono ?_
  rintro e w4 ⟨rfl, k⟩
  have K4 := hide (below_more K3.out (Nat.le_refl _) k)
  clear k K3
  go_wp2_with fail
  refine (match_n [91, 93, 45, 93] [93] true hh4 _).mono ?_
  rintro e w5 ⟨rfl, k⟩
  have K5 := hide (below_more K4.out (Nat.le_refl _) k)
  clear k K4
  go_wp2_with fail
  refine (match_n [91, 97] [91, 97] true hh5 _).mono ?_
  rintro e w6 ⟨rfl, k⟩
  have K6 := hide (below_more K5.out (Nat.le_refl _) k)
  clear k K5
  go_wp2_with fail
  refine (path_n [47, 104, 111, 109, 101, 47, 42, 42, 47, 120] [47, 104, 111, 109, 101, 47, 120] true hh6 _ (HS.out.below K6.out)).mono ?_
  rintro e w7 ⟨rfl, k⟩
  have K7 := hide (below_more K6.out (Nat.le_refl _) k)
  clear k K6
  go_wp2_with fail
  refine (path_n [47, 104, 111, 109, 101, 47, 42, 42, 47, 120] [47, 104, 111, 109, 101, 47, 97, 47, 98, 47, 120] true hh7 _ (HS.out.below K7.out)).mono ?_
  rintro e w8 ⟨rfl, k⟩
  have K8 := hide (below_more K7.out (Nat.le_refl _) k)
  clear k K7
  go_wp2_with fail
  refine (path_n [47, 104, 111, 109, 101, 47, 42] [47, 104, 111, 109, 101, 47, 97, 47, 98] false hh8 _ (HS.out.below K8.out)).mono ?_
  rintro e w9 ⟨rfl, k⟩
  have K9 := hide (below_more K8.out (Nat.le_refl _) k)
  clear k K8
  go_wp2_with fail
  refine (path_n [47] [47] true hh9 _ (HS.out.below K9.out)).mono ?_
  rintro e w10 ⟨rfl, k⟩
  have K10 := hide (below_more K9.out (Nat.le_refl _) k)
  clear k K9
  go_wp2_with fail
  refine (special_n [97, 91, 98, 93] true hh10 (by decide) _).mono ?_
  rintro e w11 ⟨rfl, k⟩
  have K11 := hide (below_more K10.out (Nat.le_refl _) k)
  clear k K10
  go_wp2_with fail
  refine (special_n [97, 92, 42] false hh11 (by decide) _).mono ?_
  rintro e w12 ⟨rfl, k⟩
  have K12 := hide (below_more K11.out (Nat.le_refl _) k)
  clear k K11
  go_wp2_with fail
  refine (quote_n [97, 42, 98] [97, 92, 42, 98] hhq (by decide) _).mono ?_
  rintro e w13 ⟨rfl, k⟩
  have K13 := hide (below_more K12.out (Nat.le_refl _) k)
  clear k K12
  go_wp2_with fail
  obtain ⟨V, hV⟩ : ∃ V, w13.alloc (.cells #[.string ⟨#[120]⟩, .string ⟨#[121, 42]⟩] 9) = V := ⟨_, rfl⟩
  have R : Hid (Reads V V.heap.size 1 (some ⟨w13.heap.size, 0, none⟩) 2 (svs [[120], [121, 42]])) := hide (by rw [← hV]; exact lit_rd w13 [[120], [121, 42]])
  have J : Hid (Below w.heap.size w V) := hide (by rw [← hV]; exact K13.out.alloc K13.out.size _)
  rw [hV]
  clear hV
  refine (any_n [[120], [121, 42]] [121, 122] true hha _ 2 2 _ (by decide) R.out).mono ?_
  rintro e wz ⟨rfl, k⟩
  have KZ := hide (below_more J.out (Nat.le_refl _) k)
  clear k R J K13
  go_wp2_with fail
  go_ret
  exact ⟨rfl, KZ.out⟩
end Go.Proofs.YteclcjpbebimeaaDoor
