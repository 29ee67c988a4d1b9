/- Check and Print. -/
import Derived.Test.YthbackkcamgidaaGreatDoorRuCk
namespace Go.Proofs.YthbackkcamgidaaGreatDoor
open Go Go.RowKit
set_option linter.unusedVariables false
theorem OpsR.len {l : List Int} (h : OpsR l) : l.length ≤ 9 := h.2.length_le
theorem RightP.lo {P : PL} (h : RightP P) : Lo P := by
  obtain ⟨_, _, h1, h2, h3, _⟩ := h
  refine ⟨by omega, by omega, fun r hr => ?_⟩
  obtain ⟨_, _, _, h4, h5, h6⟩ := h3 r hr
  refine ⟨by have := h4.len; omega, ?_⟩
  cases hw : r.wi with
  | false => rw [(h5 hw).1]; simp
  | true => have := (h6 hw).2.1; omega
theorem lines_text {P : PL} (h : Sm P) : Lines (writeU P) := by
  have go : ∀ ls : List (List LB), (∀ l ∈ ls, (Lib.join l [32]).length ≤ 30000) → Lines (textW ls) := by
    intro ls
    induction ls with
    | nil => intro _ l hl; unfold textW linesU at hl; simp [splitC] at hl; subst hl; simp
    | cons x r ih =>
      intro hx
      have h1 := ih fun l hl => hx l (List.mem_cons_of_mem _ hl)
      have h2 := hx x List.mem_cons_self
      have e : textW (x :: r) = Lib.join x [32] ++ 10 :: textW r := by unfold textW; simp
      intro l hl
      rw [e] at hl
      unfold linesU at hl
      rw [splitC_app] at hl
      rcases List.mem_append.1 hl with hl | hl
      · have := splitC_short 10 _ l hl; omega
      · exact h1 l hl
  exact go _ (lines_len h)
def checkP (P : PL) : Bool := decide (P.rules.length ≤ 64) && (decide (P.env.length ≤ 64) && (decide ((parse0 (writeU P)).2 = 0) && eqP (parse0 (writeU P)).1 P))
theorem checkP_iff (P : PL) : checkP P = true ↔ RightP P := by
  rw [← check_iff]
  unfold checkP
  rw [Bool.and_eq_true, Bool.and_eq_true, Bool.and_eq_true, decide_eq_true_iff, decide_eq_true_iff, decide_eq_true_iff, eqP_iff]
  constructor
  · rintro ⟨h1, h2, h3, h4⟩
    exact ⟨h1, h2, Prod.ext h4 h3⟩
  · rintro ⟨h1, h2, h3⟩
    rw [h3]
    exact ⟨h1, h2, rfl, rfl⟩
set_option maxRecDepth 100000 in
set_option maxHeartbeats 8000000 in
theorem check_any (P : PL) (s : RS) (w : World) (hP : PolR s P w) (hm : Sm P) (hS : StdR w) :
    Calls Tryz.prog 16 #[polV s P] w fun e w' => e = .returned (.bool (checkP P)) ∧ Below w.heap.size w w' := by
  obtain ⟨z, hz⟩ : ∃ z, w.heap.size = z := ⟨_, rfl⟩
  have hrn := hP.rn_
  have hen := hP.en_
  have hk0 := Blk.new w 26 #[.string ⟨P.root.toArray⟩, .slice s.RA s.rn s.rc, .slice s.EA s.en s.ec]
  have hb0 := (Below.refl z w).alloc (by omega) (.cells #[.string ⟨P.root.toArray⟩, .slice s.RA s.rn s.rc, .slice s.EA s.en s.ec] 26)
  have hs0 : (w.alloc (.cells #[.string ⟨P.root.toArray⟩, .slice s.RA s.rn s.rc, .slice s.EA s.en s.ec] 26)).heap.size = z + 1 := by simp [hz]
  rw [hz] at hk0
  have HP := hide hP
  have HM := hide hm
  have HS := hide hS
  have HWL : Hid ((writeU P).length ≤ 4000000000) := hide (by have := part_len hm (List.Sublist.refl _); unfold writeU; omega)
  clear hP hm hS
  show Calls Tryz.prog 16 #[.agg #[.string ⟨P.root.toArray⟩, .slice s.RA s.rn s.rc, .slice s.EA s.en s.ec]] w _
  go_enter Tryz.func16, Tryz.ntmps16
  refine wp_seq ?_
  go_upto_region 1 with (fail)
  obtain ⟨W0, hW0⟩ : ∃ W0, w.alloc (.cells #[.string ⟨P.root.toArray⟩, .slice s.RA s.rn s.rc, .slice s.EA s.en s.ec] 26) = W0 := ⟨_, rfl⟩
  rw [hW0] at hk0 hb0 hs0 ⊢
  clear hW0
  have HK := hide hk0
  have HB := hide hb0
  have c1 := hk0.cell 1
  have c2 := hk0.cell 2
  have c0 := hk0.cell 0
  clear hk0 hb0
  by_cases h1 : s.rn ≤ 64
  · have g1 : decide ((64 : Int) < (s.rn : Int)) = false := decide_eq_false (by omega)
    have g1' : (s.rn : Int) ≤ 64 := by omega
    by_cases h2 : s.en ≤ 64
    · have g2 : decide ((64 : Int) < (s.en : Int)) = false := decide_eq_false (by omega)
      have g2' : (s.en : Int) ≤ 64 := by omega
      obtain ⟨R, hR⟩ : ∃ R, parse0 (writeU P) = R := ⟨_, rfl⟩
      have HC : Hid (checkP P = (decide (R.2 = 0) && eqP R.1 P)) := hide (by
        unfold checkP
        rw [decide_eq_true (show P.rules.length ≤ 64 by omega), decide_eq_true (show P.env.length ≤ 64 by omega), hR]; rfl)
      have HLo : Hid (R.2 = 0 → Lo R.1) := hide (fun h => (parsed_right (s := writeU P) (q := R.1) (by rw [hR]; exact Prod.ext rfl h)).lo)
      have hPw := HP.out.below (by rw [hz]; exact HB.out)
      have HSw := hide (HS.out.below (by rw [hz]; exact HB.out))
      have XW := hide (write_any P s W0 hPw HM.out HSw.out)
      have XP := hide (fun W h => prs_any (writeU P) HWL.out (lines_text HM.out) W h)
      rw [hR] at XP
      have HPw := hide hPw
      clear hR hPw
      unfold polV at XW
      go_wp2_with fail
      refine XW.out.mono ?_
      rintro e w1 ⟨rfl, hb1⟩
      have HB1 := hide (HB.out.trans (hb1.mono (by omega : z ≤ W0.heap.size)))
      have HK1 := hide (HK.out.below hb1 (by omega))
      have HP1 := hide (HPw.out.below hb1)
      have HS1 := hide (HSw.out.below hb1)
      have hs1 : z + 1 ≤ w1.heap.size := by have := hb1.size; omega
      clear hb1 HB HK HPw HSw XW c0 c1 c2
      go_wp2_with fail
      refine (XP.out w1 HS1.out).mono ?_
      rintro e w2 ⟨hb2, s2, rfl, hpo⟩
      have HB2 := hide (HB1.out.trans (hb2.mono (by omega : z ≤ w1.heap.size)))
      have HK2 := hide (HK1.out.below hb2 (by omega))
      have HP2 := hide (HP1.out.below hb2)
      have HO2 := hide hpo.r
      have hs2 : z + 1 ≤ w2.heap.size := by have := hb2.size; omega
      clear hb2 hpo HB1 HK1 HP1 HS1 XP
      unfold polV
      have HB3 := hide (HB2.out.alloc (by omega) (.cells #[.string ⟨R.1.root.toArray⟩, .slice s2.RA s2.rn s2.rc, .slice s2.EA s2.en s2.ec] 26))
      have hba := (Below.refl w2.heap.size w2).alloc (Nat.le_refl _) (.cells #[.string ⟨R.1.root.toArray⟩, .slice s2.RA s2.rn s2.rc, .slice s2.EA s2.en s2.ec] 26)
      have HK3 := hide (HK2.out.alloc (.cells #[.string ⟨R.1.root.toArray⟩, .slice s2.RA s2.rn s2.rc, .slice s2.EA s2.en s2.ec] 26))
      have HP3 := hide (HP2.out.below hba)
      have HO3 := hide (HO2.out.below hba)
      have c0 := HK3.out.cell 0
      have c1 := HK3.out.cell 1
      have c2 := HK3.out.cell 2
      clear hba HB2 HK2 HP2 HO2
      by_cases hk : R.2 = 0
      · have k0 : ((R.2 : Int) == 0) = true := by rw [hk]; rfl
        have XE := hide (equal_any R.1 P s2 s _ HO3.out HP3.out (HLo.out hk) HM.out.lo)
        unfold polV at XE
        have HC2 : Hid (checkP P = eqP R.1 P) := hide (by rw [HC.out, decide_eq_true hk]; rfl)
        clear hk
        go_wp2_with fail
        refine XE.out.mono ?_
        rintro e w3 ⟨rfl, hb3⟩
        have HB4 := hide (HB3.out.trans (hb3.mono (by simp; omega)))
        clear hb3 XE c0 c1 c2
        go_wp2_with fail
        go_ret
        exact ⟨by rw [HC2.out]; rfl, by rw [hz]; exact HB4.out⟩
      · have k0 : ((R.2 : Int) == 0) = false := beq_eq_false_iff_ne.2 (by omega)
        have HC2 : Hid (checkP P = false) := hide (by rw [HC.out, decide_eq_false hk]; rfl)
        clear hk
        go_wp2_with fail
        go_ret
        exact ⟨by rw [HC2.out]; rfl, by rw [hz]; exact HB3.out⟩
    · have g2 : (64 : Int) < (s.en : Int) := by omega
      have HC : Hid (checkP P = false) := hide (by unfold checkP; rw [decide_eq_false (show ¬ P.env.length ≤ 64 by omega)]; simp)
      go_wp2_with fail
      go_ret
      exact ⟨by rw [HC.out]; rfl, by rw [hz]; exact HB.out⟩
  · have g1 : (64 : Int) < (s.rn : Int) := by omega
    have HC : Hid (checkP P = false) := hide (by unfold checkP; rw [decide_eq_false (show ¬ P.rules.length ≤ 64 by omega)]; simp)
    go_wp2_with fail
    go_ret
    exact ⟨by rw [HC.out]; rfl, by rw [hz]; exact HB.out⟩
end Go.Proofs.YthbackkcamgidaaGreatDoor
