/- heads of layer 31; the reference's Texts. -/
import Derived.Test.YtkiahjfcnhpblaaDoorEvalY
namespace Go.Proofs.YtkiahjfcnhpblaaDoor
open Go.RowKit
open Go.Maps
set_option linter.unusedVariables false
theorem lit_rd (W : World) (ks : List Bs) : Reads (W.alloc (.cells (svs ks).toArray 9)) (W.alloc (.cells (svs ks).toArray 9)).heap.size 1 (some ⟨W.heap.size, 0, none⟩) ks.length (svs ks) := by
  refine ⟨by simp [svs], fun _ => ⟨_, rfl, by simp, ?_⟩⟩
  intro j u hu
  rw [at_add, Nat.zero_add, (Blk.new W 9 (svs ks).toArray).cell j]
  simpa using hu
theorem lit_ri (W : World) (zs : List Int) : Reads (W.alloc (.cells (ivs zs).toArray 3)) (W.alloc (.cells (ivs zs).toArray 3)).heap.size 1 (some ⟨W.heap.size, 0, none⟩) zs.length (ivs zs) := by
  refine ⟨by simp [ivs], fun _ => ⟨_, rfl, by simp, ?_⟩⟩
  intro j u hu
  rw [at_add, Nat.zero_add, (Blk.new W 3 (ivs zs).toArray).cell j]
  simpa using hu
set_option maxHeartbeats 1000000 in
theorem texts_eq (ks : List Bs) (A B : Option Addr) (n c m d : Nat) (w : World) (hA : Reads w w.heap.size 1 A n (svs ks)) (hB : Reads w w.heap.size 1 B m (svs ks)) (hn : n ≤ 1000000) :
    Calls Tryd.prog 12 #[.slice A n c, .slice B m d] w fun e w' => e = .returned (.bool true) ∧ Below w.heap.size w w' := by
  have h1 := rd_len hA
  have h2 := rd_len hB
  subst h1
  subst h2
  have HA := hide hA
  have HB := hide hB
  clear hA hB
  go_enter Tryd.func12, Tryd.ntmps12
  go_wp2_with fail
  go_loopw [5] (fun u5 wx => ∃ (k : Nat), k ≤ ks.length ∧ u5 = .int .i64 k ∧ Below w.heap.size w wx) (fun i _ => ks.length - (intOf i).toNat)
  case atStart => exact ⟨0, Nat.zero_le _, rfl, Below.refl _ _⟩
  case round =>
    obtain ⟨k, hkl, rfl, hW⟩ := hrel
    have HW := hide hW
    clear hW
    by_cases hlt : k < ks.length
    · obtain ⟨g, o, rfl, hg, hc1⟩ := rd_cells (HA.out.below HW.out) (by omega)
      obtain ⟨g2, o2, rfl, hg2, hc2⟩ := rd_cells (HB.out.below HW.out) (by omega)
      have hcell := hc1 k hlt
      have hcell2 := hc2 k hlt
      generalize ks[k] = x at *
      have hi1 : (k : Int) < (ks.length : Int) := by omega
      have hi0 : (0 : Int) ≤ (k : Int) := by omega
      have hx : (x != x) = false := by simp
      clear hc1 hc2
      go_wp2_with fail
      go_quiet (fail)
      go_wp2_with fail
      go_roundw
      case rel => exact ⟨k + 1, by omega, by go_num, below_drewN HW.out _⟩
      case measure => simp [intOf]; omega
    · obtain rfl : k = ks.length := by omega
      go_wp2_with fail
      go_ret
      exact ⟨rfl, HW.out⟩
theorem num_1 : parseO [49] = some 1 := by
  have : Lib.itoa 1 = [49] := by
    unfold Lib.itoa
    rw [if_neg (by omega)]
    exact dec_small (u := 1) (by omega)
  exact parseO_some (by unfold i64R; omega) this
theorem num_2 : parseO [50] = some 2 := by
  have : Lib.itoa 2 = [50] := by
    unfold Lib.itoa
    rw [if_neg (by omega)]
    exact dec_small (u := 2) (by omega)
  exact parseO_some (by unfold i64R; omega) this
theorem num_x : parseO [120] = none := rfl
theorem v_1 : numV [49] = 1 ∧ numB [49] = true := by unfold numV numB; rw [num_1]; exact ⟨rfl, rfl⟩
theorem v_2 : numV [50] = 2 ∧ numB [50] = true := by unfold numV numB; rw [num_2]; exact ⟨rfl, rfl⟩
theorem v_x : numB [120] = false := by unfold numB; rw [num_x]; rfl
theorem hv1 : evalP [[49], [45, 108, 116], [50]] [] = (true, 0) := by
  have h1 : posF false [[49], [45, 108, 116], [50]] = ([[49], [45, 108, 116], [50]], false, true) := rfl
  have h2 : cmpR [45, 108, 116] [49] [50] = (true, 0) := by
    have h3 : cmpR [45, 108, 116] [49] [50] = if numB [49] = true ∧ numB [50] = true then (cmpB 32 (numV [49]) (numV [50]), 0) else (false, 32) := rfl
    rw [h3, v_1.1, v_1.2, v_2.1, v_2.2]; rfl
  unfold evalP
  rw [h1]
  simp only [evalR, h2]
  rfl
theorem hv2 : evalP [[33], [45, 122], [97]] [] = (true, 0) := rfl
theorem hv3 : evalP [[45, 100], [47]] [2] = (true, 0) := rfl
theorem hv4 : evalP [[49], [45, 108, 116], [120]] [] = (false, 32) := by
  have h1 : posF false [[49], [45, 108, 116], [120]] = ([[49], [45, 108, 116], [120]], false, true) := rfl
  have h2 : cmpR [45, 108, 116] [49] [120] = (false, 32) := by
    have h3 : cmpR [45, 108, 116] [49] [120] = if numB [49] = true ∧ numB [120] = true then (cmpB 32 (numV [49]) (numV [120]), 0) else (false, 32) := rfl
    rw [h3, v_x, if_neg (by simp)]
  unfold evalP
  rw [h1]
  simp only [evalR, h2]
  rfl
theorem hv5 : evalP [[97], [98], [99], [100], [101]] [] = (false, 32) := rfl
theorem eval_n (l : List Bs) (kinds : List Int) (r : Bool × Int) (e : evalP l kinds = r) (A B : Option Addr) (n c m d : Nat) (w : World) (hS : Std w) (hl : l.length ≤ 1000) (hk : ∀ k ∈ l, k.length ≤ 1000000) (hc : n ≤ c) (hcm : c ≤ maxLen) (hA : Reads w w.heap.size 1 A n (svs l)) (hB : Reads w w.heap.size 1 B m (ivs kinds)) :
    Calls Tryd.prog 8 #[.slice A n c, .slice B m d] w fun e w' => e = .returned (.tuple #[.bool r.1, .int .i64 r.2]) ∧ Below w.heap.size w w' := by
  subst e; exact eval_any l kinds A B n c m d w hS hl hk hc hcm hA hB
theorem compare_n (op a b : Bs) (r : Bool × Int) (e : cmpR op a b = r) (w : World) (h : Std w) (hop : op.length ≤ maxLen) (ha : a.length ≤ 1000000) (hb : b.length ≤ 1000000) :
    Calls Tryd.prog 10 #[.string ⟨op.toArray⟩, .string ⟨a.toArray⟩, .string ⟨b.toArray⟩] w fun e w' => e = .returned (.tuple #[.bool r.1, .int .i64 r.2]) ∧ Below w.heap.size w w' := by
  subst e; exact compare_any op a b w h hop ha hb
theorem paths_n (l r : List Bs) (e : pathsR l = r) (A : Option Addr) (n c : Nat) (w : World) (hl : l.length ≤ 1000) (hk : ∀ k ∈ l, k.length ≤ 1000000) (hc : n ≤ c) (hcm : c ≤ maxLen) (hA : Reads w w.heap.size 1 A n (svs l)) :
    Calls Tryd.prog 13 #[.slice A n c] w fun e w' => ∃ A' c', e = .returned (.slice A' r.length c') ∧ Reads w' w'.heap.size 1 A' r.length (svs r) ∧ Below w.heap.size w w' := by
  subst e
  refine (paths_any l A n c w hl hk hc hcm hA).mono ?_
  rintro e w' ⟨A', n', c', rfl, hR, hb⟩
  have := rd_len hR
  subst this
  exact ⟨A', c', rfl, hR, hb⟩
theorem echo_n (l : List Bs) (r : Bs) (e : echoR l = r) (A : Option Addr) (n c : Nat) (w : World) (ht : (Lib.join l [32]).length ≤ 1000000) (hc : n ≤ c) (hA : Reads w w.heap.size 1 A n (svs l)) :
    Calls Tryd.prog 15 #[.slice A n c] w fun e w' => e = .returned (.string ⟨r.toArray⟩) ∧ Below w.heap.size w w' := by
  subst e; exact echo_any l A n c w ht hc hA
set_option maxRecDepth 100000 in
set_option maxHeartbeats 4000000 in
theorem heads_any (w : World) (hS : Std w) : Calls Tryd.prog 7 #[] w fun e w' => e = .returned (.bool true) ∧ Below w.heap.size w w' := by
  have HS := hide hS
  have K0 := hide (Below.refl w.heap.size w)
  clear hS
  go_enter Tryd.func7, Tryd.ntmps7
  go_wp2_with fail
  obtain ⟨V0, hV0⟩ : ∃ V, w.alloc (.cells #[.string ⟨#[49]⟩, .string ⟨#[45, 108, 116]⟩, .string ⟨#[50]⟩] 9) = V := ⟨_, rfl⟩
  have R0 : Hid (Reads V0 V0.heap.size 1 (some ⟨w.heap.size, 0, none⟩) 3 (svs [[49], [45, 108, 116], [50]])) := hide (by rw [← hV0]; exact lit_rd w [[49], [45, 108, 116], [50]])
  have J0 : Hid (Below w.heap.size w V0) := hide (by rw [← hV0]; exact K0.out.alloc K0.out.size _)
  have N0 : Hid (V0.heap.size = w.heap.size + 1) := hide (by rw [← hV0]; simp)
  have Q0 : Hid (∀ B, B ≤ w.heap.size → Below B w V0) := hide (fun B hB => by rw [← hV0]; exact (Below.refl _ _).alloc hB _)
  rw [hV0]
  clear hV0
  refine (eval_n [[49], [45, 108, 116], [50]] [] (true, 0) hv1 _ none 3 3 0 0 _ (HS.out.below J0.out) (by decide) (by decide) (by decide) (by decide) R0.out Reads.none_).mono ?_
  rintro e w1 ⟨rfl, k⟩
  have K1 := hide (below_more J0.out (Nat.le_refl _) k)
  clear k J0 K0 R0 N0 Q0
  go_wp2_with fail
  obtain ⟨V1, hV1⟩ : ∃ V, w1.alloc (.cells #[.string ⟨#[33]⟩, .string ⟨#[45, 122]⟩, .string ⟨#[97]⟩] 9) = V := ⟨_, rfl⟩
  have R1 : Hid (Reads V1 V1.heap.size 1 (some ⟨w1.heap.size, 0, none⟩) 3 (svs [[33], [45, 122], [97]])) := hide (by rw [← hV1]; exact lit_rd w1 [[33], [45, 122], [97]])
  have J1 : Hid (Below w.heap.size w V1) := hide (by rw [← hV1]; exact K1.out.alloc K1.out.size _)
  have N1 : Hid (V1.heap.size = w1.heap.size + 1) := hide (by rw [← hV1]; simp)
  have Q1 : Hid (∀ B, B ≤ w1.heap.size → Below B w1 V1) := hide (fun B hB => by rw [← hV1]; exact (Below.refl _ _).alloc hB _)
  rw [hV1]
  clear hV1
  refine (eval_n [[33], [45, 122], [97]] [] (true, 0) hv2 _ none 3 3 0 0 _ (HS.out.below J1.out) (by decide) (by decide) (by decide) (by decide) R1.out Reads.none_).mono ?_
  rintro e w2 ⟨rfl, k⟩
  have K2 := hide (below_more J1.out (Nat.le_refl _) k)
  clear k J1 K1 R1 N1 Q1
  go_wp2_with fail
  obtain ⟨V2, hV2⟩ : ∃ V, w2.alloc (.cells #[.string ⟨#[45, 100]⟩, .string ⟨#[47]⟩] 9) = V := ⟨_, rfl⟩
  have R2 : Hid (Reads V2 V2.heap.size 1 (some ⟨w2.heap.size, 0, none⟩) 2 (svs [[45, 100], [47]])) := hide (by rw [← hV2]; exact lit_rd w2 [[45, 100], [47]])
  have J2 : Hid (Below w.heap.size w V2) := hide (by rw [← hV2]; exact K2.out.alloc K2.out.size _)
  have N2 : Hid (V2.heap.size = w2.heap.size + 1) := hide (by rw [← hV2]; simp)
  have Q2 : Hid (∀ B, B ≤ w2.heap.size → Below B w2 V2) := hide (fun B hB => by rw [← hV2]; exact (Below.refl _ _).alloc hB _)
  rw [hV2]
  clear hV2
  obtain ⟨X2, hX2⟩ : ∃ V, V2.alloc (.cells #[.int .i64 2] 3) = V := ⟨_, rfl⟩
  have RI : Hid (Reads X2 X2.heap.size 1 (some ⟨V2.heap.size, 0, none⟩) 1 (ivs [2])) := hide (by rw [← hX2]; exact lit_ri V2 [2])
  have RX : Hid (Reads X2 X2.heap.size 1 (some ⟨w2.heap.size, 0, none⟩) 2 (svs [[45, 100], [47]])) := hide (by rw [← hX2]; exact (R2.out.alloc (Nat.le_refl _) _).more (by simp))
  have JX : Hid (Below w.heap.size w X2) := hide (by rw [← hX2]; exact J2.out.alloc J2.out.size _)
  rw [N2.out] at RI
  try rw [N2.out] at hX2
  rw [hX2]
  clear hX2
  refine (eval_n [[45, 100], [47]] [2] (true, 0) hv3 _ _ 2 2 1 1 _ (HS.out.below JX.out) (by decide) (by decide) (by decide) (by decide) RX.out RI.out).mono ?_
  rintro e w3 ⟨rfl, k⟩
  have K3 := hide (below_more JX.out (Nat.le_refl _) k)
  clear k JX K2 R2 J2 N2 Q2 RI RX
  go_wp2_with fail
  obtain ⟨V3, hV3⟩ : ∃ V, w3.alloc (.cells #[.string ⟨#[49]⟩, .string ⟨#[45, 108, 116]⟩, .string ⟨#[120]⟩] 9) = V := ⟨_, rfl⟩
  have R3 : Hid (Reads V3 V3.heap.size 1 (some ⟨w3.heap.size, 0, none⟩) 3 (svs [[49], [45, 108, 116], [120]])) := hide (by rw [← hV3]; exact lit_rd w3 [[49], [45, 108, 116], [120]])
  have J3 : Hid (Below w.heap.size w V3) := hide (by rw [← hV3]; exact K3.out.alloc K3.out.size _)
  have N3 : Hid (V3.heap.size = w3.heap.size + 1) := hide (by rw [← hV3]; simp)
  have Q3 : Hid (∀ B, B ≤ w3.heap.size → Below B w3 V3) := hide (fun B hB => by rw [← hV3]; exact (Below.refl _ _).alloc hB _)
  rw [hV3]
  clear hV3
  refine (eval_n [[49], [45, 108, 116], [120]] [] (false, 32) hv4 _ none 3 3 0 0 _ (HS.out.below J3.out) (by decide) (by decide) (by decide) (by decide) R3.out Reads.none_).mono ?_
  rintro e w4 ⟨rfl, k⟩
  have K4 := hide (below_more J3.out (Nat.le_refl _) k)
  clear k J3 K3 R3 N3 Q3
  go_wp2_with fail
  obtain ⟨V4, hV4⟩ : ∃ V, w4.alloc (.cells #[.string ⟨#[97]⟩, .string ⟨#[98]⟩, .string ⟨#[99]⟩, .string ⟨#[100]⟩, .string ⟨#[101]⟩] 9) = V := ⟨_, rfl⟩
  have R4 : Hid (Reads V4 V4.heap.size 1 (some ⟨w4.heap.size, 0, none⟩) 5 (svs [[97], [98], [99], [100], [101]])) := hide (by rw [← hV4]; exact lit_rd w4 [[97], [98], [99], [100], [101]])
  have J4 : Hid (Below w.heap.size w V4) := hide (by rw [← hV4]; exact K4.out.alloc K4.out.size _)
  have N4 : Hid (V4.heap.size = w4.heap.size + 1) := hide (by rw [← hV4]; simp)
  have Q4 : Hid (∀ B, B ≤ w4.heap.size → Below B w4 V4) := hide (fun B hB => by rw [← hV4]; exact (Below.refl _ _).alloc hB _)
  rw [hV4]
  clear hV4
  refine (eval_n [[97], [98], [99], [100], [101]] [] (false, 32) hv5 _ none 5 5 0 0 _ (HS.out.below J4.out) (by decide) (by decide) (by decide) (by decide) R4.out Reads.none_).mono ?_
  rintro e w5 ⟨rfl, k⟩
  have K5 := hide (below_more J4.out (Nat.le_refl _) k)
  clear k J4 K4 R4 N4 Q4
  go_wp2_with fail
  refine (compare_n [33, 61] [97] [98] (true, 0) rfl _ (HS.out.below K5.out) (by decide) (by decide) (by decide)).mono ?_
  rintro e w6 ⟨rfl, k⟩
  have K6 := hide (below_more K5.out (Nat.le_refl _) k)
  clear k K5
  go_wp2_with fail
  obtain ⟨V6, hV6⟩ : ∃ V, w6.alloc (.cells #[.string ⟨#[33]⟩, .string ⟨#[45, 102]⟩, .string ⟨#[120]⟩] 9) = V := ⟨_, rfl⟩
  have R6 : Hid (Reads V6 V6.heap.size 1 (some ⟨w6.heap.size, 0, none⟩) 3 (svs [[33], [45, 102], [120]])) := hide (by rw [← hV6]; exact lit_rd w6 [[33], [45, 102], [120]])
  have J6 : Hid (Below w.heap.size w V6) := hide (by rw [← hV6]; exact K6.out.alloc K6.out.size _)
  have N6 : Hid (V6.heap.size = w6.heap.size + 1) := hide (by rw [← hV6]; simp)
  have Q6 : Hid (∀ B, B ≤ w6.heap.size → Below B w6 V6) := hide (fun B hB => by rw [← hV6]; exact (Below.refl _ _).alloc hB _)
  rw [hV6]
  clear hV6
  refine (paths_n [[33], [45, 102], [120]] [[120]] rfl _ 3 3 _ (by decide) (by decide) (by decide) (by decide) R6.out).mono ?_
  rintro e w7 ⟨A, c, rfl, hR, k⟩
  have HR := hide hR
  clear hR
  have K7 := hide (below_more J6.out (Nat.le_refl _) k)
  clear k J6 K6 R6 N6 Q6
  go_wp2_with fail
  obtain ⟨V7, hV7⟩ : ∃ V, w7.alloc (.cells #[.string ⟨#[120]⟩] 9) = V := ⟨_, rfl⟩
  have R7 : Hid (Reads V7 V7.heap.size 1 (some ⟨w7.heap.size, 0, none⟩) 1 (svs [[120]])) := hide (by rw [← hV7]; exact lit_rd w7 [[120]])
  have J7 : Hid (Below w.heap.size w V7) := hide (by rw [← hV7]; exact K7.out.alloc K7.out.size _)
  have N7 : Hid (V7.heap.size = w7.heap.size + 1) := hide (by rw [← hV7]; simp)
  have Q7 : Hid (∀ B, B ≤ w7.heap.size → Below B w7 V7) := hide (fun B hB => by rw [← hV7]; exact (Below.refl _ _).alloc hB _)
  rw [hV7]
  clear hV7
  refine (texts_eq [[120]] A _ 1 c 1 1 _ ((HR.out.below (Q7.out _ (Nat.le_refl _))).more (by rw [N7.out]; omega)) R7.out (by decide)).mono ?_
  rintro e w8 ⟨rfl, k⟩
  have K8 := hide (below_more J7.out (Nat.le_refl _) k)
  clear k J7 K7 R7 N7 Q7 HR
  go_wp2_with fail
  obtain ⟨V8, hV8⟩ : ∃ V, w8.alloc (.cells #[.string ⟨#[45, 110]⟩, .string ⟨#[120]⟩] 9) = V := ⟨_, rfl⟩
  have R8 : Hid (Reads V8 V8.heap.size 1 (some ⟨w8.heap.size, 0, none⟩) 2 (svs [[45, 110], [120]])) := hide (by rw [← hV8]; exact lit_rd w8 [[45, 110], [120]])
  have J8 : Hid (Below w.heap.size w V8) := hide (by rw [← hV8]; exact K8.out.alloc K8.out.size _)
  have N8 : Hid (V8.heap.size = w8.heap.size + 1) := hide (by rw [← hV8]; simp)
  have Q8 : Hid (∀ B, B ≤ w8.heap.size → Below B w8 V8) := hide (fun B hB => by rw [← hV8]; exact (Below.refl _ _).alloc hB _)
  rw [hV8]
  clear hV8
  refine (paths_n [[45, 110], [120]] [] rfl _ 2 2 _ (by decide) (by decide) (by decide) (by decide) R8.out).mono ?_
  rintro e w9 ⟨A2, c2, rfl, hR, k⟩
  clear hR
  have K9 := hide (below_more J8.out (Nat.le_refl _) k)
  clear k J8 K8 R8 N8 Q8
  go_wp2_with fail
  obtain ⟨V9, hV9⟩ : ∃ V, w9.alloc (.cells #[.string ⟨#[97]⟩, .string ⟨#[98]⟩] 9) = V := ⟨_, rfl⟩
  have R9 : Hid (Reads V9 V9.heap.size 1 (some ⟨w9.heap.size, 0, none⟩) 2 (svs [[97], [98]])) := hide (by rw [← hV9]; exact lit_rd w9 [[97], [98]])
  have J9 : Hid (Below w.heap.size w V9) := hide (by rw [← hV9]; exact K9.out.alloc K9.out.size _)
  have N9 : Hid (V9.heap.size = w9.heap.size + 1) := hide (by rw [← hV9]; simp)
  have Q9 : Hid (∀ B, B ≤ w9.heap.size → Below B w9 V9) := hide (fun B hB => by rw [← hV9]; exact (Below.refl _ _).alloc hB _)
  rw [hV9]
  clear hV9
  refine (echo_n [[97], [98]] [97, 32, 98, 10] rfl _ 2 2 _ (by decide) (by decide) R9.out).mono ?_
  rintro e w10 ⟨rfl, k⟩
  have K10 := hide (below_more J9.out (Nat.le_refl _) k)
  clear k J9 K9 R9 N9 Q9
  go_wp2_with fail
  go_ret
  exact ⟨rfl, K10.out⟩
end Go.Proofs.YtkiahjfcnhpblaaDoor
