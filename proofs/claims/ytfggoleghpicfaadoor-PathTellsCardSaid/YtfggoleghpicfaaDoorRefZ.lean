/- The reference's contracts: Last. -/
import Derived.Test.YtfggoleghpicfaaDoorRefY
import Derived.Outline
namespace Go.Proofs.YtfggoleghpicfaaDoor
open Go.RowKit
set_option linter.unusedVariables false
theorem last_nil_root (l : Bs) (hr : rooted l = true) (h : cleaned l (rooted l) = []) : lastA l = [47] ∧ lastB l = [] := by
  have ep := parts_clean_true l hr
  rw [hr] at h
  unfold lastA lastB lastP
  rw [ep, h, if_pos rfl, clean_true l hr, h]
  exact ⟨rfl, rfl⟩
theorem last_nil (l : Bs) (hr : rooted l = false) (h : cleaned l (rooted l) = []) : lastA l = [46] ∧ lastB l = [46] := by
  have ep := parts_clean l
  rw [hr] at h ep
  rw [h] at ep
  unfold lastA lastB lastP
  rw [ep, rooted_clean, hr]
  exact ⟨rfl, rfl⟩
theorem last_more (l : Bs) (h : cleaned l (rooted l) ≠ []) : lastA l = text (rooted l) (cleaned l (rooted l)).dropLast ∧ lastB l = (cleaned l (rooted l)).getLastD [] := by
  have ep := parts_clean l
  unfold partsOf at ep
  rw [if_neg (by simp [h])] at ep
  unfold lastA lastB lastP
  rw [ep, if_neg h, rooted_clean]
  exact ⟨rfl, rfl⟩
theorem rtext_d (ks : List Bs) (root : Bool) (A : Option Addr) (n c : Nat) (w : World) (m : Nat) (hR : Reads (w.drewN m) (w.drewN m).heap.size 1 A n (svs ks)) (hk : wt ks ≤ 200000) :
    Calls Tryd.prog 27 #[.slice A n c, .bool root] (w.drewN m) fun e w' => e = .returned (.string ⟨(text root ks).toArray⟩) ∧ w.drewN m = w' :=
  (rtext_any ks root A n c (w.drewN m) hR hk).mono fun _ _ h => ⟨h.1, h.2.symm⟩
theorem rrooted_d (l : Bs) (b : Bool) (h : Hid (rooted l = b)) (w : World) (m : Nat) : Calls Tryd.prog 26 #[.string ⟨l.toArray⟩] (w.drewN m) fun e w' => e = .returned (.bool b) ∧ w.drewN m = w' := by
  have := rrooted_any l (w.drewN m)
  rw [h.out] at this
  exact this
set_option maxHeartbeats 1000000 in
theorem rlast_any (l : Bs) (w : World) (hl : l.length ≤ 100000) :
    Calls Tryd.prog 9 #[.string ⟨l.toArray⟩] w fun e w' => e = .returned (.tuple #[.string ⟨(lastA l).toArray⟩, .string ⟨(lastB l).toArray⟩]) ∧ Below w.heap.size w w' := by
  have HL := hide (rleft_any l w hl)
  have hwt := wt_cleaned l (rooted l)
  have hcl := cleaned_len l (rooted l)
  have L1 := hide (last_nil_root l)
  have L2 := hide (last_nil l)
  have L3 := hide (last_more l)
  generalize cleaned l (rooted l) = ks at *
  obtain ⟨root, hroot⟩ : ∃ r, rooted l = r := ⟨_, rfl⟩
  have HRT := hide hroot
  rw [hroot] at L1 L2 L3
  clear hroot
  go_enter Tryd.func9, Tryd.ntmps9
  go_wp2_with fail
  refine HL.out.mono ?_
  rintro e w1 ⟨A, n, c, rfl, hO, hb⟩
  have hn := hO.len
  have HO := hide hO
  have HB := hide hb
  clear hO hb HL
  by_cases h0 : ks = []
  · subst h0
    obtain rfl : n = 0 := by simpa using hn.symm
    clear hn
    cases root with
    | true =>
      have LA := hide (L1.out rfl rfl)
      go_wp2_with fail
      refine (rrooted_any l _).mono ?_
      rintro e w' ⟨rfl, rfl⟩
      rw [HRT.out]
      go_wp2_with fail
      go_ret2
      exact ⟨by rw [LA.out.1, LA.out.2] <;> rfl, HB.out⟩
    | false =>
      have LA := hide (L2.out rfl rfl)
      go_wp2_with fail
      refine (rrooted_any l _).mono ?_
      rintro e w' ⟨rfl, rfl⟩
      rw [HRT.out]
      go_wp2_with fail
      go_ret2
      exact ⟨by rw [LA.out.1, LA.out.2] <;> rfl, HB.out⟩
  · have LA := hide (L3.out h0)
    obtain ⟨q, rfl⟩ : ∃ q, n = q + 1 := ⟨n - 1, by have : ks.length ≠ 0 := fun e => h0 (List.eq_nil_of_length_eq_zero e); omega⟩
    have hq : q ≤ 100001 := by omega
    obtain ⟨hD, hqc, g, rfl, hlast⟩ := ow_drop HO.out
    have hwd : wt ks.dropLast ≤ 200000 := by have := wt_dropLast ks; omega
    have hR := hide hD.rd
    generalize ks.getLastD [] = lst at *
    generalize ks.dropLast = ds at *
    have hsl := fun W => run_slice_to (P := Tryd.prog) 29 9 Tryd.underlying29 sizeStr (some ⟨g, 0, none⟩) (q + 1) c .i64 (q : Int) (by omega) (by omega) W
    simp only [Int.toNat_natCast] at hsl
    have hi0 : (0 : Int) ≤ (q : Int) := by omega
    have hi1 : (q : Int) < ((q + 1 : Nat) : Int) := by omega
    have hi2 : (q : Int) < (q : Int) + 1 := by omega
    have hi3 : q < q + 1 := by omega
    have hz : ((q : Int) + 1 == 0) = false := beq_eq_false_iff_ne.2 (by omega)
    clear hn h0 hD HO
    go_wp2_with fail
    go_quiet (first
      | (go_at_call 26; first | with_reducible exact quiet_add_left (rrooted_d l root HRT _ _) | with_reducible exact quiet_left (rrooted_d l root HRT _ _))
      | (go_at_call 27; first | with_reducible exact quiet_add_left (rtext_d ds root _ _ _ _ _ (hR.out.below (below_drewN (Below.refl _ _) _)) hwd) | with_reducible exact quiet_left (rtext_d ds root _ _ _ _ _ (hR.out.below (below_drewN (Below.refl _ _) _)) hwd)))
    go_wp2_with fail
    go_ret2
    exact ⟨by rw [LA.out.1, LA.out.2] <;> rfl, below_drewN HB.out _⟩
end Go.Proofs.YtfggoleghpicfaaDoor
