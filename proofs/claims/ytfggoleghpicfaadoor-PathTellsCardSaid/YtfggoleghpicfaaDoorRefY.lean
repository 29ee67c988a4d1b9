/- The reference's contracts: Inside, the walk. -/
import Derived.Test.YtfggoleghpicfaaDoorRefX
import Derived.Outline
namespace Go.Proofs.YtfggoleghpicfaaDoor
open Go.RowKit
set_option linter.unusedVariables false
theorem cleaned_len (s : Bs) (root : Bool) : (cleaned s root).length ≤ s.length + 1 := by
  have h1 := fold_len root (parts s) []
  have h2 := parts_le s
  unfold cleaned
  simp at h1
  omega
set_option maxHeartbeats 2000000 in
theorem rinside_any (p r : Bs) (w : World) (hp : p.length ≤ 100000) (hr : r.length ≤ 100000) :
    Calls Tryd.prog 22 #[.string ⟨p.toArray⟩, .string ⟨r.toArray⟩] w fun e w' => e = .returned (.bool (insideP p r)) ∧ Below w.heap.size w w' := by
  cases hrp : rooted p with
  | false =>
    have HRP := hide hrp
    have HI : Hid (insideP p r = false) := hide (inside_not p r (.inl hrp))
    clear hrp
    go_enter Tryd.func22, Tryd.ntmps22
    go_wp2_with (go_at_call 26; refine (rrooted_any p _).mono ?_; rintro e w' ⟨rfl, rfl⟩; rw [HRP.out])
    go_ret
    exact ⟨by rw [HI.out]; rfl, Below.refl _ _⟩
  | true =>
    cases hrr : rooted r with
    | false =>
      have HRP := hide hrp
      have HRR := hide hrr
      have HI : Hid (insideP p r = false) := hide (inside_not p r (.inr hrr))
      clear hrp hrr
      go_enter Tryd.func22, Tryd.ntmps22
      go_wp2_with fail
      refine (rrooted_any p _).mono ?_
      rintro e w' ⟨rfl, rfl⟩
      rw [HRP.out]
      go_wp2_with fail
      refine (rrooted_any r _).mono ?_
      rintro e w' ⟨rfl, rfl⟩
      rw [HRR.out]
      go_wp2_with fail
      go_ret
      exact ⟨by rw [HI.out]; rfl, Below.refl _ _⟩
    | true =>
      have HRP := hide hrp
      have HRR := hide hrr
      have hI := inside_plain p r hrp hrr
      have HLP := fun W => rleft_any p W hp
      have HLR := fun W => rleft_any r W hr
      have hb1 := cleaned_len p (rooted p)
      have hb2 := cleaned_len r (rooted r)
      rw [hrp] at HLP hb1
      rw [hrr] at HLR hb2
      have HLP := hide HLP
      have HLR := hide HLR
      clear hrp hrr
      generalize cleaned p true = ks at *
      generalize cleaned r true = js at *
      have HI := hide hI
      clear hI
      go_enter Tryd.func22, Tryd.ntmps22
      go_wp2_with fail
      refine (rrooted_any p _).mono ?_
      rintro e w' ⟨rfl, rfl⟩
      rw [HRP.out]
      go_wp2_with fail
      refine (rrooted_any r _).mono ?_
      rintro e w' ⟨rfl, rfl⟩
      rw [HRR.out]
      go_wp2_with fail
      refine (HLP.out _).mono ?_
      rintro e w1 ⟨A, n, c, rfl, hOA, hB1⟩
      have HOA := hide hOA
      have HB1 := hide hB1
      clear hOA hB1
      go_wp2_with fail
      refine (HLR.out _).mono ?_
      rintro e w2 ⟨B, m, d, rfl, hOB, hB2⟩
      have hn := HOA.out.len
      have hm := hOB.len
      subst hn
      subst hm
      have HRB := hide hOB.rd
      have HRA := hide (HOA.out.below hB2).rd
      have HB2 := hide (below_more HB1.out (Nat.le_refl _) hB2)
      clear hOB hB2 HOA HB1
      by_cases hlt : ks.length < js.length
      · have HI2 : Hid (insideP p r = false) := hide (by rw [HI.out, pre_long ks js hlt])
        go_wp2_with fail
        go_ret
        exact ⟨by rw [HI2.out]; rfl, HB2.out⟩
      · go_wp2_with fail
        go_loopw [7] (fun u7 wx => ∃ (k : Nat), k ≤ js.length ∧ u7 = .int .i64 k ∧ ks.take k = js.take k ∧ Below w2.heap.size w2 wx) (fun i _ => js.length - (intOf i).toNat)
        case atStart => exact ⟨0, Nat.zero_le _, rfl, by simp, Below.refl _ _⟩
        case round =>
          obtain ⟨k, hkl, rfl, hpre, hW⟩ := hrel
          have HW := hide hW
          have HP := hide hpre
          clear hW hpre
          by_cases hk : k < js.length
          · have hka : k < ks.length := by omega
            obtain ⟨ad, u, hA1, hadb, hu, hcell⟩ := (HRA.out.below HW.out).at_ hka
            obtain ⟨bd, u2, hB1, hbdb, hu2, hcell2⟩ := (HRB.out.below HW.out).at_ hk
            subst hA1
            subst hB1
            rw [svs_get ks k hka] at hu
            rw [svs_get js k hk] at hu2
            injection hu with hu
            injection hu2 with hu2
            subst hu
            subst hu2
            unfold sv at hcell hcell2
            have hi1 : (k : Int) < (js.length : Int) := by omega
            have hi2 : (k : Int) < (ks.length : Int) := by omega
            have hi0 : (0 : Int) ≤ (k : Int) := by omega
            by_cases hx : ks[k] = js[k]
            · have HN := hide (pre_next ks js k hka hk hx HP.out)
              rw [hx] at hcell
              clear hx
              generalize js[k] = x at *
              have hxx : (x != x) = false := by simp
              go_wp2_with fail
              go_quiet (fail)
              go_wp2_with fail
              go_roundw
              case rel => exact ⟨k + 1, by omega, by go_num, HN.out, below_drewN HW.out _⟩
              case measure => simp [intOf]; omega
            · have HI2 : Hid (insideP p r = false) := hide (by rw [HI.out, pre_diff ks js k hka hk hx])
              have hxx : (ks[k] != js[k]) = true := by simpa using hx
              have hxe : (ks[k] == js[k]) = false := beq_eq_false_iff_ne.2 hx
              clear hx
              generalize ks[k] = y at *
              generalize js[k] = x at *
              go_wp2_with fail
              go_quiet (fail)
              go_wp2_with fail
              go_ret
              exact ⟨by rw [HI2.out]; rfl, below_more HB2.out (Nat.le_refl _) (below_drewN HW.out _)⟩
          · obtain rfl : k = js.length := by omega
            have HI2 : Hid (insideP p r = true) := hide (by
              rw [HI.out]
              have h := HP.out
              rw [List.take_length] at h
              exact pre_all ks js h)
            go_wp2_with fail
            go_ret
            exact ⟨by rw [HI2.out]; rfl, below_more HB2.out (Nat.le_refl _) HW.out⟩
end Go.Proofs.YtfggoleghpicfaaDoor
