/- The heads of the laws of layer 28. -/
import Derived.Test.YtpioelpmdaeieaaGreatDoorSetF
namespace Go.Proofs.YtpioelpmdaeieaaGreatDoor
open Go.RowKit
set_option linter.unusedVariables false
theorem OwV.le {B : Nat} {w : World} {A : Option Addr} {n c : Nat} {l : List Vr} (h : OwV B w A n c l) : n ≤ c := by
  rcases h.2 with ⟨hv, h0⟩ | ⟨g, cap, cur, hv, hb, hh, hnc, hmx, hsz, htk⟩
  · subst h0; exact Nat.zero_le _
  · injection hv with e1 e2 e3; subst e3; exact hnc
def vX : Vr := ⟨[120], [49], false⟩
def vA : Vr := ⟨[97], [50], false⟩
def vXe : Vr := ⟨[120], [49], true⟩
theorem h1 : chgP [] [120] (setV [49]) = ([vX], 0) := by kernel_rfl
theorem h2 : chgP [vX] [97] (setV [50]) = ([vA, vX], 0) := by kernel_rfl
theorem h3 : chgP [vA, vX] [120] expV = ([vA, vXe], 0) := by kernel_rfl
theorem h4 : chgP [vA, vXe] [49] (setV []) = ([vA, vXe], 2) := by kernel_rfl
theorem h5 : getP [vA, vXe] [120] = [49] := by kernel_rfl
theorem h6 : hasP [vA, vXe] [120] = true := by kernel_rfl
theorem h7 : envP [vA, vXe] = [[120, 61, 49]] := by kernel_rfl
theorem h8 : unsP [vA, vXe] [97] = [vXe] := by kernel_rfl
theorem h9 : checkP [vA, vXe] = true := by kernel_rfl
theorem h10 : lengthP [97, 195, 164] = 2 := by kernel_rfl
theorem h11 : ([97, 47, 98, 47, 99] : LB).take (5 - shortN (sufF [97, 47, 98, 47, 99] [47, 42]) 5) = [97, 47, 98] := by kernel_rfl
theorem h12 : ([97, 47, 98, 47, 99] : LB).drop (longN (preF [97, 47, 98, 47, 99] [42, 47]) 5) = [99] := by kernel_rfl
theorem nm1 : ∀ x ∈ ([] : List Vr), x.name.length ≤ 100000 := fun x h => by cases h
theorem nm2 : ∀ x ∈ [vX], x.name.length ≤ 100000 := fun x h => by simp only [List.mem_singleton] at h; subst h; decide
theorem nm3 : ∀ x ∈ [vA, vX], x.name.length ≤ 100000 := fun x h => by simp only [List.mem_cons, List.not_mem_nil, or_false] at h; rcases h with rfl | rfl <;> decide
theorem nm4 : ∀ x ∈ [vA, vXe], x.name.length ≤ 100000 := fun x h => by simp only [List.mem_cons, List.not_mem_nil, or_false] at h; rcases h with rfl | rfl <;> decide
theorem set1h (w : World) : Calls Tryz.prog 11 #[.slice none 0 0, .string ⟨#[120]⟩, .string ⟨#[49]⟩] w fun e w' => ∃ A' c', e = .returned (.tuple #[.slice A' 1 c', .int .i64 0]) ∧ OwV w.heap.size w' A' 1 c' [vX] ∧ Below w.heap.size w w' := by
  have := set_any [] nm1 [120] [49] (by decide) none 0 0 w Reads.none_ (by decide) (by decide)
  rw [h1] at this
  exact this
theorem set2h (A : Option Addr) (c : Nat) (w : World) (h : RdV w A 1 [vX]) (hc : 1 ≤ c) : Calls Tryz.prog 11 #[.slice A 1 c, .string ⟨#[97]⟩, .string ⟨#[50]⟩] w fun e w' => ∃ A' c', e = .returned (.tuple #[.slice A' 2 c', .int .i64 0]) ∧ OwV w.heap.size w' A' 2 c' [vA, vX] ∧ Below w.heap.size w w' := by
  have := set_any [vX] nm2 [97] [50] (by decide) A 1 c w h (by decide) hc
  rw [h2] at this
  exact this
theorem exph (A : Option Addr) (c : Nat) (w : World) (h : RdV w A 2 [vA, vX]) (hc : 2 ≤ c) : Calls Tryz.prog 13 #[.slice A 2 c, .string ⟨#[120]⟩] w fun e w' => ∃ A' c', e = .returned (.tuple #[.slice A' 2 c', .int .i64 0]) ∧ OwV w.heap.size w' A' 2 c' [vA, vXe] ∧ Below w.heap.size w w' := by
  have := export_any [vA, vX] nm3 [120] (by decide) A 2 c w h (by decide) hc
  rw [h3] at this
  exact this
theorem set4h (A : Option Addr) (c : Nat) (w : World) (h : RdV w A 2 [vA, vXe]) (hc : 2 ≤ c) : Calls Tryz.prog 11 #[.slice A 2 c, .string ⟨#[49]⟩, .string ⟨#[]⟩] w fun e w' => ∃ A' c', e = .returned (.tuple #[.slice A' 2 c', .int .i64 2]) ∧ OwV w.heap.size w' A' 2 c' [vA, vXe] ∧ Below w.heap.size w w' := by
  have := set_any [vA, vXe] nm4 [49] [] (by decide) A 2 c w h (by decide) hc
  rw [h4] at this
  exact this
theorem geth (A : Option Addr) (c : Nat) (w : World) (h : RdV w A 2 [vA, vXe]) : Calls Tryz.prog 9 #[.slice A 2 c, .string ⟨#[120]⟩] w fun e w' => e = .returned (.tuple #[.string ⟨#[49]⟩, .bool true]) ∧ Below w.heap.size w w' := by
  have := get_any [vA, vXe] nm4 [120] A 2 c w h (by decide)
  rw [h5, h6] at this
  exact this
theorem envh (A : Option Addr) (c : Nat) (w : World) (h : RdV w A 2 [vA, vXe]) : Calls Tryz.prog 19 #[.slice A 2 c] w fun e w' => ∃ A' c', e = .returned (.slice A' 1 c') ∧ Ow w.heap.size w' A' 1 c' [[120, 61, 49]] ∧ Below w.heap.size w w' := by
  have := env_any [vA, vXe] nm4 A 2 c w h (by decide)
  rw [h7] at this
  exact this
theorem unsh (A : Option Addr) (c : Nat) (w : World) (h : RdV w A 2 [vA, vXe]) (hc : 2 ≤ c) : Calls Tryz.prog 16 #[.slice A 2 c, .string ⟨#[97]⟩] w fun e w' => ∃ A' c', e = .returned (.slice A' 1 c') ∧ Below w.heap.size w w' := by
  have := unset_any [vA, vXe] nm4 [97] A 2 c w h (by decide) hc
  rw [h8] at this
  exact this.mono (fun e w' ⟨A', c', h1, _, h3⟩ => ⟨A', c', h1, h3⟩)
theorem chkh (A : Option Addr) (c : Nat) (w : World) (h : RdV w A 2 [vA, vXe]) : Calls Tryz.prog 21 #[.slice A 2 c] w fun e w' => e = .returned (.bool true) ∧ Below w.heap.size w w' := by
  have := check_any [vA, vXe] nm4 A 2 c w h (by decide)
  rw [h9] at this
  exact this
theorem cut1h (w : World) : Calls Tryz.prog 25 #[.string ⟨#[97, 47, 98, 47, 99]⟩, .string ⟨#[37]⟩, .string ⟨#[47, 42]⟩] w fun e w' => e = .returned (.string ⟨#[97, 47, 98]⟩) ∧ Below w.heap.size w w' := by
  have := cut_c [97, 47, 98, 47, 99] [47, 42] (by decide) w
  rw [show ([97, 47, 98, 47, 99] : LB).length = 5 from rfl, h11] at this
  exact this
theorem cut2h (w : World) : Calls Tryz.prog 25 #[.string ⟨#[97, 47, 98, 47, 99]⟩, .string ⟨#[35, 35]⟩, .string ⟨#[42, 47]⟩] w fun e w' => e = .returned (.string ⟨#[99]⟩) ∧ Below w.heap.size w w' := by
  have := cut_b [97, 47, 98, 47, 99] [42, 47] (by decide) w
  rw [show ([97, 47, 98, 47, 99] : LB).length = 5 from rfl, h12] at this
  exact this
theorem lenh (w : World) : Calls Tryz.prog 27 #[.string ⟨#[97, 195, 164]⟩] w fun e w' => e = .returned (.int .i64 2) ∧ w = w' := by
  have := length_any [97, 195, 164] (by decide) w
  rw [h10] at this
  exact this
set_option maxRecDepth 1000000 in
set_option maxHeartbeats 8000000 in
theorem heads_any (w : World) : Calls Tryz.prog 8 #[] w fun e w' => e = .returned (.bool true) ∧ Below w.heap.size w w' := by
  have K := hide (Below.refl w.heap.size w)
  go_enter Tryz.func8, Tryz.ntmps8
  go_wp2_with fail
  refine (set1h _).mono ?_
  rintro e w1 ⟨A1, c1, rfl, hO, hb⟩
  have HO := hide hO
  replace K := hide (below_more K.out (Nat.le_refl _) hb)
  clear hO hb
  go_wp2_with fail
  refine (set2h _ _ _ HO.out.rd HO.out.le).mono ?_
  rintro e w2 ⟨A2, c2, rfl, hO, hb⟩
  replace HO := hide hO
  replace K := hide (below_more K.out (Nat.le_refl _) hb)
  clear hO hb
  go_wp2_with fail
  refine (exph _ _ _ HO.out.rd HO.out.le).mono ?_
  rintro e w3 ⟨A3, c3, rfl, hO, hb⟩
  replace HO := hide hO
  replace K := hide (below_more K.out (Nat.le_refl _) hb)
  clear hO hb
  have HLE := hide HO.out.le
  have HR := hide HO.out.rd
  obtain ⟨v0, v1, hv, hvg, q0⟩ : ∃ g o, A3 = some ⟨g, o, none⟩ ∧ g < w3.heap.size ∧ w3.cell? ⟨g, o, none⟩ = some (.string ⟨#[97]⟩) := by
    obtain ⟨g, o, e, hg, q0, _, _⟩ := var_cells HR.out (k := 0) (x := vA) rfl
    exact ⟨g, o, e, hg, q0⟩
  subst hv
  have HC := hide q0
  clear q0
  go_wp2_with fail
  refine (set4h _ _ _ HR.out HLE.out).mono ?_
  rintro e w4 ⟨A4, c4, rfl, hO, hb⟩
  replace HR := hide (HR.out.below hb)
  replace HC := hide ((hb.cell (p := ⟨v0, v1, none⟩) hvg).trans HC.out)
  replace hvg := Nat.lt_of_lt_of_le hvg hb.size
  replace K := hide (below_more K.out (Nat.le_refl _) hb)
  clear hO hb
  go_wp2_with fail
  refine (geth _ _ _ HR.out).mono ?_
  rintro e w5 ⟨rfl, hb⟩
  replace HR := hide (HR.out.below hb)
  replace HC := hide ((hb.cell (p := ⟨v0, v1, none⟩) hvg).trans HC.out)
  replace hvg := Nat.lt_of_lt_of_le hvg hb.size
  replace K := hide (below_more K.out (Nat.le_refl _) hb)
  clear hb
  go_wp2_with fail
  obtain ⟨V1, hV⟩ : ∃ V, w5.alloc (.cells #[.string ⟨#[112]⟩, .string ⟨#[113]⟩] 9) = V := ⟨_, rfl⟩
  have hb : Below w5.heap.size w5 V1 := by rw [← hV]; exact (Below.refl _ _).alloc (Nat.le_refl _) _
  have hP : V1.cell? ⟨w5.heap.size, 1, none⟩ = some (.string ⟨#[113]⟩) := by rw [← hV]; exact (Blk.new w5 9 #[.string ⟨#[112]⟩, .string ⟨#[113]⟩]).cell 1
  rw [hV]
  refine (param_2 _ _ _ _ _ hP).mono ?_
  rintro e w6 ⟨rfl, rfl⟩
  replace HR := hide (HR.out.below hb)
  replace HC := hide ((hb.cell (p := ⟨v0, v1, none⟩) hvg).trans HC.out)
  replace hvg := Nat.lt_of_lt_of_le hvg hb.size
  replace K := hide (below_more K.out (Nat.le_refl _) hb)
  clear hb hP hV
  go_wp2_with fail
  refine (param_q _ _ _ _ _ _).mono ?_
  rintro e w6 ⟨rfl, rfl⟩
  go_wp2_with fail
  refine (param_at _ _ _).mono ?_
  rintro e w6 ⟨rfl, rfl⟩
  have hia : ∀ W, (Instr.indexAt 22 (.slice (some ⟨v0, v1, none⟩) 2 c3) (.int .i64 0)).run Tryz.prog W = .ok (.pointer (some ⟨v0, v1, none⟩)) W := fun W => by
    have := var_at v0 v1 2 c3 0 0 rfl (by decide) W
    simpa using this
  have q0 := HC.out
  go_wp2_with fail
  refine (envh _ _ _ HR.out).mono ?_
  rintro e w7 ⟨A7, c7, rfl, hO, hb⟩
  have HO7 := hide hO
  replace HR := hide (HR.out.below hb)
  replace K := hide (below_more K.out (Nat.le_refl _) hb)
  clear hO hb q0
  go_wp2_with fail
  obtain ⟨V2, hV⟩ : ∃ V, w7.alloc (.cells #[.string ⟨#[120, 61, 49]⟩] 9) = V := ⟨_, rfl⟩
  have hb : Below w7.heap.size w7 V2 := by rw [← hV]; exact (Below.refl _ _).alloc (Nat.le_refl _) _
  have HL : Hid (Reads V2 V2.heap.size 1 (some ⟨w7.heap.size, 0, none⟩) 1 (svs [[120, 61, 49]])) := hide (by rw [← hV]; exact lit_rd w7 [[120, 61, 49]])
  rw [hV]
  replace HO7 := hide (HO7.out.below hb)
  replace HR := hide (HR.out.below hb)
  replace K := hide (below_more K.out (Nat.le_refl _) hb)
  clear hb hV
  refine (texts_eq [[120, 61, 49]] _ _ 1 c7 1 1 V2 HO7.out.rd HL.out (by decide)).mono ?_
  rintro e w8 ⟨rfl, hb⟩
  replace HR := hide (HR.out.below hb)
  replace K := hide (below_more K.out (Nat.le_refl _) hb)
  clear hb HL HO7
  go_wp2_with fail
  refine (cut1h _).mono ?_
  rintro e w9 ⟨rfl, hb⟩
  replace HR := hide (HR.out.below hb)
  replace K := hide (below_more K.out (Nat.le_refl _) hb)
  clear hb
  go_wp2_with fail
  refine (cut2h _).mono ?_
  rintro e w10 ⟨rfl, hb⟩
  replace HR := hide (HR.out.below hb)
  replace K := hide (below_more K.out (Nat.le_refl _) hb)
  clear hb
  go_wp2_with fail
  refine (lenh _).mono ?_
  rintro e w11 ⟨rfl, rfl⟩
  go_wp2_with fail
  refine (unsh _ _ _ HR.out HLE.out).mono ?_
  rintro e w12 ⟨A12, c12, rfl, hb⟩
  replace HR := hide (HR.out.below hb)
  replace K := hide (below_more K.out (Nat.le_refl _) hb)
  clear hb
  go_wp2_with fail
  refine (chkh _ _ _ HR.out).mono ?_
  rintro e w13 ⟨rfl, hb⟩
  replace K := hide (below_more K.out (Nat.le_refl _) hb)
  clear hb
  go_wp2_with fail
  go_ret
  exact ⟨rfl, K.out⟩
end Go.Proofs.YtpioelpmdaeieaaGreatDoor
