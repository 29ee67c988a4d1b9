/- The law ParamSets. -/
import Derived.Test.YtpioelpmdaeieaaGreatDoorParT
import Derived.Test.YtpioelpmdaeieaaGreatDoorParS
namespace Go.Proofs.YtpioelpmdaeieaaGreatDoor
open Go.RowKit
set_option linter.unusedVariables false
theorem few_names {l : List Vr} (h : fewP l = true) : l.length ≤ 80 ∧ ∀ x ∈ l, x.name.length ≤ 100000 := by
  unfold fewP at h
  rw [Bool.and_eq_true, decide_eq_true_eq, List.all_eq_true] at h
  refine ⟨h.1, fun x hx => ?_⟩
  have := h.2 x hx
  unfold shortV at this
  rw [Bool.and_eq_true, decide_eq_true_eq] at this
  omega
theorem check_names {l : List Vr} (h : checkP l = true) : l.length ≤ 64 ∧ ∀ x ∈ l, x.name.length ≤ 100000 := by
  obtain ⟨h1, h2, _⟩ := (check_iff l).1 h
  refine ⟨h1, fun x hx => ?_⟩
  have := h2 x hx
  rw [valid_eq, Bool.and_eq_true, name_eq] at this
  simp only [Bool.and_eq_true, decide_eq_true_eq] at this
  omega
/-- What the law says, of plain lists. -/
theorem sets_facts {l : List Vr} (hc : checkP l = true) (nm vl ot : LB) (hno : nm ≠ ot) :
    checkP (chgP l nm (setV vl)).1 = true ∧ checkP (chgP (chgP l nm (setV vl)).1 nm expV).1 = true ∧
    (hasP (chgP l nm (setV vl)).1 ot = hasP l ot ∧ getP (chgP l nm (setV vl)).1 ot = getP l ot) ∧
    hasP (unsP (chgP l nm (setV vl)).1 nm) nm = false ∧
    ((chgP l nm (setV vl)).2 = 0 → hasP (chgP l nm (setV vl)).1 nm = true ∧ getP (chgP l nm (setV vl)).1 nm = vl) ∧
    ((chgP l nm (setV vl)).2 ≠ 0 → (chgP l nm (setV vl)).1 = l) ∧
    ((chgP (chgP l nm (setV vl)).1 nm expV).2 = 0 → hasP (chgP (chgP l nm (setV vl)).1 nm expV).1 nm = true ∧
      (hasP (chgP l nm (setV vl)).1 nm = true → getP (chgP (chgP l nm (setV vl)).1 nm expV).1 nm = getP (chgP l nm (setV vl)).1 nm) ∧
      (hasP (chgP l nm (setV vl)).1 nm = false → getP (chgP (chgP l nm (setV vl)).1 nm expV).1 nm = [])) := by
  obtain ⟨a1, a2, a3⟩ := chg_spec hc nm (setV vl) (fun _ => rfl)
  generalize hr : chgP l nm (setV vl) = r at *
  obtain ⟨b1, b2, b3⟩ := chg_spec a2 nm expV (fun _ => rfl)
  generalize hx : chgP r.1 nm expV = x at *
  refine ⟨a2, b2, ?_, ?_, ?_, a1, ?_⟩
  · rw [(get_look a2 ot).1, (get_look a2 ot).2, (get_look hc ot).1, (get_look hc ot).2]
    by_cases h : r.2 = 0
    · rw [a3 h ot, if_neg (fun e => hno e.symm)]; exact ⟨rfl, rfl⟩
    · rw [a1 h]; exact ⟨rfl, rfl⟩
  · rw [(get_look (uns_check a2 nm) nm).1, uns_look a2 nm]; rfl
  · intro h
    rw [(get_look a2 nm).1, (get_look a2 nm).2, a3 h nm, if_pos rfl]
    exact ⟨rfl, rfl⟩
  · intro h
    have hs := ((check_iff r.1).1 a2).2.2
    rw [(get_look b2 nm).1, (get_look b2 nm).2, b3 h nm, if_pos rfl, (get_look a2 nm).1, (get_look a2 nm).2, old_look hs nm]
    refine ⟨rfl, fun hh => ?_, fun hh => ?_⟩
    · obtain ⟨y, hy⟩ := Option.isSome_iff_exists.1 hh
      rw [hy]; rfl
    · have : lookP r.1 nm = none := by simpa using hh
      rw [this]; rfl
set_option maxRecDepth 100000 in
set_option maxHeartbeats 16000000 in
theorem sets_any (l : List Vr) (A : Option Addr) (n c : Nat) (nm vl ot : LB) (w : World) (hR : RdV w A n l) (hnc : n ≤ c) :
    Calls Tryz.prog 4 #[.slice A n c, .string ⟨nm.toArray⟩, .string ⟨vl.toArray⟩, .string ⟨ot.toArray⟩] w fun e w' => e = .returned (.bool true) ∧ Below w.heap.size w w' := by
  have XH := hide (fun W => heads_any W)
  have K := hide (Below.refl w.heap.size w)
  have hl := hR.len
  have XFW := hide (fun W => few_any l A n c W)
  have XFW : Hid (∀ W, W = w → Calls Tryz.prog 7 #[.slice A n c] W fun e w' => e = .returned (.bool (fewP l)) ∧ W = w') := hide (fun W h => XFW.out W (by rw [h]; exact hR))
  have XFW : Hid (∀ _ : Unit, Calls Tryz.prog 7 #[.slice A n c] w fun e w' => e = .returned (.bool (fewP l)) ∧ w = w') := hide (fun _ => XFW.out w rfl)
  have HR := hide hR
  have HL := hide hl
  obtain ⟨fw, hfw⟩ : ∃ b, fewP l = b := ⟨_, rfl⟩
  rw [hfw] at XFW
  have HFW := hide hfw
  clear hfw hR hl
  cases fw with
  | false =>
    go_enter Tryz.func4, Tryz.ntmps4
    go_wp2_with fail
    refine (XFW.out ()).mono ?_
    rintro e w1 ⟨rfl, rfl⟩
    go_wp2_with fail
    refine (XH.out _).mono ?_
    rintro e w9 ⟨rfl, hb⟩
    replace K := hide (below_more K.out (Nat.le_refl _) hb)
    clear hb
    go_wp2_with fail
    go_ret
    exact ⟨rfl, K.out⟩
  | true =>
    obtain ⟨hn80, hs⟩ := few_names HFW.out
    have hn : n ≤ 80 := by have := HL.out; omega
    have XRC := hide (rcheck_any l hs A n c w HR.out (by omega))
    obtain ⟨ck, hck⟩ : ∃ b, checkP l = b := ⟨_, rfl⟩
    rw [hck] at XRC
    have HCK := hide hck
    have HS := hide hs
    clear hck hs hn80
    cases ck with
    | false =>
      go_enter Tryz.func4, Tryz.ntmps4
      go_wp2_with fail
      refine (XFW.out ()).mono ?_
      rintro e w1 ⟨rfl, rfl⟩
      go_wp2_with fail
      refine XRC.out.mono ?_
      rintro e w2 ⟨rfl, hb⟩
      replace K := hide (below_more K.out (Nat.le_refl _) hb)
      have HR2 := hide (HR.out.below hb)
      clear hb
      go_wp2_with fail
      refine (XH.out _).mono ?_
      rintro e w9 ⟨rfl, hb⟩
      replace K := hide (below_more K.out (Nat.le_refl _) hb)
      clear hb
      go_wp2_with fail
      go_ret
      exact ⟨rfl, K.out⟩
    | true =>
      by_cases z1 : nm.length ≤ 1100
      · have y1 : ¬ (1100 : Int) < (nm.length : Int) := by omega
        by_cases z2 : vl.length ≤ 1100
        · have y2 : ¬ (1100 : Int) < (vl.length : Int) := by omega
          by_cases z3 : ot.length ≤ 1100
          · have y3 : ¬ (1100 : Int) < (ot.length : Int) := by omega
            by_cases hno : nm = ot
            · have hb1 : (nm == ot) = true := beq_iff_eq.2 hno
              clear hno
              go_enter Tryz.func4, Tryz.ntmps4
              go_wp2_with fail
              refine (XFW.out ()).mono ?_
              rintro e w1 ⟨rfl, rfl⟩
              go_wp2_with fail
              refine XRC.out.mono ?_
              rintro e w2 ⟨rfl, hb⟩
              replace K := hide (below_more K.out (Nat.le_refl _) hb)
              have HR2 := hide (HR.out.below hb)
              clear hb
              go_wp2_with fail
              refine (XH.out _).mono ?_
              rintro e w9 ⟨rfl, hb⟩
              replace K := hide (below_more K.out (Nat.le_refl _) hb)
              clear hb
              go_wp2_with fail
              go_ret
              exact ⟨rfl, K.out⟩
            · have hb1 : (nm == ot) = false := beq_eq_false_iff_ne.2 hno
              have HFA := hide (sets_facts HCK.out nm vl ot hno)
              clear hno
              have XS := hide (fun W (h : RdV W A n l) => set_any l HS.out nm vl (by omega) A n c W h (by omega) hnc)
              have XG1 := hide (fun W (h : RdV W A n l) => get_any l HS.out ot A n c W h (by omega))
              obtain ⟨r, hr⟩ : ∃ r, chgP l nm (setV vl) = r := ⟨_, rfl⟩
              rw [hr] at XS HFA
              obtain ⟨rl, re⟩ := r
              dsimp only at XS HFA
              clear hr
              obtain ⟨fa1, fa2, fa3, fa4, fa5, fa6, fa7⟩ := HFA.out
              obtain ⟨hr64, hrs⟩ := check_names fa1
              have HRS := hide hrs
              obtain ⟨q, hq⟩ : ∃ q, rl.length = q := ⟨_, rfl⟩
              have HQ := hide hq
              rw [hq] at XS hr64
              have XG2 := hide (fun A' c' W (h : RdV W A' q rl) => get_any rl HRS.out ot A' q c' W h (by omega))
              have XG3 := hide (fun A' c' W (h : RdV W A' q rl) => get_any rl HRS.out nm A' q c' W h (by omega))
              have XU := hide (fun A' c' W (h : RdV W A' q rl) (h2 : q ≤ c') => unset_any rl HRS.out nm A' q c' W h (by omega) h2)
              have XE := hide (fun A' c' W (h : RdV W A' q rl) (h2 : q ≤ c') => export_any rl HRS.out nm (by omega) A' q c' W h (by omega) h2)
              have XC1 := hide (fun A' c' W (h : RdV W A' q rl) => check_any rl HRS.out A' q c' W h (by omega))
              rw [fa1] at XC1
              rw [fa3.1, fa3.2] at XG2
              have hU := uns_check fa1 nm
              obtain ⟨u, hu⟩ : ∃ u, unsP rl nm = u := ⟨_, rfl⟩
              rw [hu] at XU hU fa4
              obtain ⟨hu64, hus⟩ := check_names hU
              obtain ⟨qu, hqu⟩ : ∃ q, u.length = q := ⟨_, rfl⟩
              have HUS := hide hus
              rw [hqu] at XU hu64
              have XG4 := hide (fun A' c' W (h : RdV W A' qu u) => get_any u HUS.out nm A' qu c' W h (by omega))
              rw [fa4] at XG4
              obtain ⟨x, hx⟩ : ∃ x, chgP rl nm expV = x := ⟨_, rfl⟩
              rw [hx] at XE fa2 fa7
              obtain ⟨xl, xe⟩ := x
              dsimp only at XE fa2 fa7
              obtain ⟨hx64, hxs⟩ := check_names fa2
              obtain ⟨qx, hqx⟩ : ∃ q, xl.length = q := ⟨_, rfl⟩
              have HXS := hide hxs
              rw [hqx] at XE hx64
              have XG5 := hide (fun A' c' W (h : RdV W A' qx xl) => get_any xl HXS.out nm A' qx c' W h (by omega))
              have XC2 := hide (fun A' c' W (h : RdV W A' qx xl) => check_any xl HXS.out A' qx c' W h (by omega))
              rw [fa2] at XC2
              have XSM := hide (fun A' c' W (h1 : RdV W A n l) (h2 : RdV W A' q l) => same_eq l A A' n c q c' W h1 h2 (by omega))
              clear hq hu hqu hx hqx HFA fa1 fa2 fa3 fa4 hU hus hxs hrs
              generalize hasP l ot = ok at *
              generalize getP l ot = ga at *
              generalize getP u nm = gu at *
              obtain ⟨got, hgot⟩ : ∃ b, hasP rl nm = b := ⟨_, rfl⟩
              obtain ⟨gc, hgc⟩ : ∃ b, getP rl nm = b := ⟨_, rfl⟩
              obtain ⟨still, hst⟩ : ∃ b, hasP xl nm = b := ⟨_, rfl⟩
              obtain ⟨gd, hgd⟩ : ∃ b, getP xl nm = b := ⟨_, rfl⟩
              rw [hgot, hgc] at XG3 fa5 fa7
              rw [hst, hgd] at XG5 fa7
              clear hgot hgc hst hgd
              have F5 := hide fa5
              have F6 := hide fa6
              have F7 := hide fa7
              clear fa5 fa6 fa7
              obtain ⟨E, hE⟩ : ∃ E : Int, (re : Int) = E := ⟨_, rfl⟩
              obtain ⟨G, hG⟩ : ∃ G : Int, (xe : Int) = G := ⟨_, rfl⟩
              rw [hE] at XS
              rw [hG] at XE
              have nq : (ga != ga) = false := by simp
              have nk : (ok != ok) = false := by simp
              by_cases ez : re = 0
              · obtain ⟨v1, v2⟩ := F5.out ez
                subst v1 v2
                have e1 : (E == 0) = true := by rw [beq_iff_eq]; omega
                have e2 : (E != 0) = false := by rw [bne, e1]; rfl
                have nv : (gc != gc) = false := by simp
                by_cases fz : xe = 0
                · obtain ⟨v1, v2, v3⟩ := F7.out fz
                  have v2 := v2 rfl
                  subst v1 v2
                  have g1 : (G == 0) = true := by rw [beq_iff_eq]; omega
                  have g2 : (G != 0) = false := by rw [bne, g1]; rfl
                  have ngd : (gd == gd) = true := by simp
                  clear ez fz hE hG v3 F5 F6 F7
                  go_enter Tryz.func4, Tryz.ntmps4
                  go_wp2_with fail
                  refine (XFW.out ()).mono ?_
                  rintro e w1 ⟨rfl, rfl⟩
                  go_wp2_with fail
                  refine XRC.out.mono ?_
                  rintro e w2 ⟨rfl, hb⟩
                  replace K := hide (below_more K.out (Nat.le_refl _) hb)
                  have HR2 := hide (HR.out.below hb)
                  clear hb
                  go_wp2_with fail
                  refine (XS.out _ HR2.out).mono ?_
                  rintro e w3 ⟨A1, c1, rfl, hO, hb⟩
                  have HO1 := hide (hO.rd)
                  have HC1 := hide (hO.le)
                  replace K := hide (below_more K.out (Nat.le_refl _) hb)
                  replace HR2 := hide (HR2.out.below hb)
                  clear hO hb
                  go_wp2_with fail
                  refine (XG1.out _ HR2.out).mono ?_
                  rintro e w4 ⟨rfl, hb⟩
                  replace K := hide (below_more K.out (Nat.le_refl _) hb)
                  replace HR2 := hide (HR2.out.below hb)
                  replace HO1 := hide (HO1.out.below hb)
                  clear hb
                  go_wp2_with fail
                  refine (XG2.out _ _ _ HO1.out).mono ?_
                  rintro e w4 ⟨rfl, hb⟩
                  replace K := hide (below_more K.out (Nat.le_refl _) hb)
                  replace HR2 := hide (HR2.out.below hb)
                  replace HO1 := hide (HO1.out.below hb)
                  clear hb
                  go_wp2_with fail
                  refine (XG3.out _ _ _ HO1.out).mono ?_
                  rintro e w4 ⟨rfl, hb⟩
                  replace K := hide (below_more K.out (Nat.le_refl _) hb)
                  replace HR2 := hide (HR2.out.below hb)
                  replace HO1 := hide (HO1.out.below hb)
                  clear hb
                  go_wp2_with fail
                  refine (XU.out _ _ _ HO1.out HC1.out).mono ?_
                  rintro e w4 ⟨A2, c2, rfl, hO, hb⟩
                  have HO2 := hide (hO.rd)
                  replace K := hide (below_more K.out (Nat.le_refl _) hb)
                  replace HR2 := hide (HR2.out.below hb)
                  replace HO1 := hide (HO1.out.below hb)
                  clear hO hb
                  go_wp2_with fail
                  refine (XG4.out _ _ _ HO2.out).mono ?_
                  rintro e w4 ⟨rfl, hb⟩
                  replace K := hide (below_more K.out (Nat.le_refl _) hb)
                  replace HR2 := hide (HR2.out.below hb)
                  replace HO1 := hide (HO1.out.below hb)
                  clear hb
                  go_wp2_with fail
                  refine (XE.out _ _ _ HO1.out HC1.out).mono ?_
                  rintro e w4 ⟨A3, c3, rfl, hO, hb⟩
                  have HO3 := hide (hO.rd)
                  replace K := hide (below_more K.out (Nat.le_refl _) hb)
                  replace HR2 := hide (HR2.out.below hb)
                  replace HO1 := hide (HO1.out.below hb)
                  clear hO hb
                  go_wp2_with fail
                  refine (XG5.out _ _ _ HO3.out).mono ?_
                  rintro e w4 ⟨rfl, hb⟩
                  replace K := hide (below_more K.out (Nat.le_refl _) hb)
                  replace HR2 := hide (HR2.out.below hb)
                  replace HO1 := hide (HO1.out.below hb)
                  replace HO3 := hide (HO3.out.below hb)
                  clear hb
                  go_wp2_with fail
                  refine (XC1.out _ _ _ HO1.out).mono ?_
                  rintro e w4 ⟨rfl, hb⟩
                  replace K := hide (below_more K.out (Nat.le_refl _) hb)
                  replace HR2 := hide (HR2.out.below hb)
                  replace HO1 := hide (HO1.out.below hb)
                  replace HO3 := hide (HO3.out.below hb)
                  clear hb
                  go_wp2_with fail
                  refine (XC2.out _ _ _ HO3.out).mono ?_
                  rintro e w4 ⟨rfl, hb⟩
                  replace K := hide (below_more K.out (Nat.le_refl _) hb)
                  replace HR2 := hide (HR2.out.below hb)
                  replace HO1 := hide (HO1.out.below hb)
                  clear hb
                  go_wp2_with fail
                  refine (XH.out _).mono ?_
                  rintro e w9 ⟨rfl, hb⟩
                  replace K := hide (below_more K.out (Nat.le_refl _) hb)
                  clear hb
                  go_wp2_with fail
                  go_ret
                  exact ⟨rfl, K.out⟩
                · have g1 : (G == 0) = false := beq_eq_false_iff_ne.2 (by omega)
                  have g2 : (G != 0) = true := by rw [bne, g1]; rfl
                  clear ez fz hE hG F5 F6 F7
                  go_enter Tryz.func4, Tryz.ntmps4
                  go_wp2_with fail
                  refine (XFW.out ()).mono ?_
                  rintro e w1 ⟨rfl, rfl⟩
                  go_wp2_with fail
                  refine XRC.out.mono ?_
                  rintro e w2 ⟨rfl, hb⟩
                  replace K := hide (below_more K.out (Nat.le_refl _) hb)
                  have HR2 := hide (HR.out.below hb)
                  clear hb
                  go_wp2_with fail
                  refine (XS.out _ HR2.out).mono ?_
                  rintro e w3 ⟨A1, c1, rfl, hO, hb⟩
                  have HO1 := hide (hO.rd)
                  have HC1 := hide (hO.le)
                  replace K := hide (below_more K.out (Nat.le_refl _) hb)
                  replace HR2 := hide (HR2.out.below hb)
                  clear hO hb
                  go_wp2_with fail
                  refine (XG1.out _ HR2.out).mono ?_
                  rintro e w4 ⟨rfl, hb⟩
                  replace K := hide (below_more K.out (Nat.le_refl _) hb)
                  replace HR2 := hide (HR2.out.below hb)
                  replace HO1 := hide (HO1.out.below hb)
                  clear hb
                  go_wp2_with fail
                  refine (XG2.out _ _ _ HO1.out).mono ?_
                  rintro e w4 ⟨rfl, hb⟩
                  replace K := hide (below_more K.out (Nat.le_refl _) hb)
                  replace HR2 := hide (HR2.out.below hb)
                  replace HO1 := hide (HO1.out.below hb)
                  clear hb
                  go_wp2_with fail
                  refine (XG3.out _ _ _ HO1.out).mono ?_
                  rintro e w4 ⟨rfl, hb⟩
                  replace K := hide (below_more K.out (Nat.le_refl _) hb)
                  replace HR2 := hide (HR2.out.below hb)
                  replace HO1 := hide (HO1.out.below hb)
                  clear hb
                  go_wp2_with fail
                  refine (XU.out _ _ _ HO1.out HC1.out).mono ?_
                  rintro e w4 ⟨A2, c2, rfl, hO, hb⟩
                  have HO2 := hide (hO.rd)
                  replace K := hide (below_more K.out (Nat.le_refl _) hb)
                  replace HR2 := hide (HR2.out.below hb)
                  replace HO1 := hide (HO1.out.below hb)
                  clear hO hb
                  go_wp2_with fail
                  refine (XG4.out _ _ _ HO2.out).mono ?_
                  rintro e w4 ⟨rfl, hb⟩
                  replace K := hide (below_more K.out (Nat.le_refl _) hb)
                  replace HR2 := hide (HR2.out.below hb)
                  replace HO1 := hide (HO1.out.below hb)
                  clear hb
                  go_wp2_with fail
                  refine (XE.out _ _ _ HO1.out HC1.out).mono ?_
                  rintro e w4 ⟨A3, c3, rfl, hO, hb⟩
                  have HO3 := hide (hO.rd)
                  replace K := hide (below_more K.out (Nat.le_refl _) hb)
                  replace HR2 := hide (HR2.out.below hb)
                  replace HO1 := hide (HO1.out.below hb)
                  clear hO hb
                  go_wp2_with fail
                  refine (XG5.out _ _ _ HO3.out).mono ?_
                  rintro e w4 ⟨rfl, hb⟩
                  replace K := hide (below_more K.out (Nat.le_refl _) hb)
                  replace HR2 := hide (HR2.out.below hb)
                  replace HO1 := hide (HO1.out.below hb)
                  replace HO3 := hide (HO3.out.below hb)
                  clear hb
                  go_wp2_with fail
                  refine (XC1.out _ _ _ HO1.out).mono ?_
                  rintro e w4 ⟨rfl, hb⟩
                  replace K := hide (below_more K.out (Nat.le_refl _) hb)
                  replace HR2 := hide (HR2.out.below hb)
                  replace HO1 := hide (HO1.out.below hb)
                  replace HO3 := hide (HO3.out.below hb)
                  clear hb
                  go_wp2_with fail
                  refine (XC2.out _ _ _ HO3.out).mono ?_
                  rintro e w4 ⟨rfl, hb⟩
                  replace K := hide (below_more K.out (Nat.le_refl _) hb)
                  replace HR2 := hide (HR2.out.below hb)
                  replace HO1 := hide (HO1.out.below hb)
                  clear hb
                  go_wp2_with fail
                  refine (XH.out _).mono ?_
                  rintro e w9 ⟨rfl, hb⟩
                  replace K := hide (below_more K.out (Nat.le_refl _) hb)
                  clear hb
                  go_wp2_with fail
                  go_ret
                  exact ⟨rfl, K.out⟩
              · have HRE := hide (F6.out ez)
                have e1 : (E == 0) = false := beq_eq_false_iff_ne.2 (by omega)
                have e2 : (E != 0) = true := by rw [bne, e1]; rfl
                by_cases fz : xe = 0
                · have g1 : (G == 0) = true := by rw [beq_iff_eq]; omega
                  have g2 : (G != 0) = false := by rw [bne, g1]; rfl
                  obtain ⟨v1, v2, v3⟩ := F7.out fz
                  subst v1
                  by_cases hdc : gd = gc
                  · have ngd : (gd == gc) = true := beq_iff_eq.2 hdc
                    clear ez fz hE hG v2 v3 F5 F6 F7 hdc
                    go_enter Tryz.func4, Tryz.ntmps4
                    go_wp2_with fail
                    refine (XFW.out ()).mono ?_
                    rintro e w1 ⟨rfl, rfl⟩
                    go_wp2_with fail
                    refine XRC.out.mono ?_
                    rintro e w2 ⟨rfl, hb⟩
                    replace K := hide (below_more K.out (Nat.le_refl _) hb)
                    have HR2 := hide (HR.out.below hb)
                    clear hb
                    go_wp2_with fail
                    refine (XS.out _ HR2.out).mono ?_
                    rintro e w3 ⟨A1, c1, rfl, hO, hb⟩
                    have HO1 := hide (hO.rd)
                    have HC1 := hide (hO.le)
                    replace K := hide (below_more K.out (Nat.le_refl _) hb)
                    replace HR2 := hide (HR2.out.below hb)
                    clear hO hb
                    go_wp2_with fail
                    refine (XG1.out _ HR2.out).mono ?_
                    rintro e w4 ⟨rfl, hb⟩
                    replace K := hide (below_more K.out (Nat.le_refl _) hb)
                    replace HR2 := hide (HR2.out.below hb)
                    replace HO1 := hide (HO1.out.below hb)
                    clear hb
                    go_wp2_with fail
                    refine (XG2.out _ _ _ HO1.out).mono ?_
                    rintro e w4 ⟨rfl, hb⟩
                    replace K := hide (below_more K.out (Nat.le_refl _) hb)
                    replace HR2 := hide (HR2.out.below hb)
                    replace HO1 := hide (HO1.out.below hb)
                    clear hb
                    go_wp2_with fail
                    refine (XG3.out _ _ _ HO1.out).mono ?_
                    rintro e w4 ⟨rfl, hb⟩
                    replace K := hide (below_more K.out (Nat.le_refl _) hb)
                    replace HR2 := hide (HR2.out.below hb)
                    replace HO1 := hide (HO1.out.below hb)
                    clear hb
                    go_wp2_with fail
                    refine (XU.out _ _ _ HO1.out HC1.out).mono ?_
                    rintro e w4 ⟨A2, c2, rfl, hO, hb⟩
                    have HO2 := hide (hO.rd)
                    replace K := hide (below_more K.out (Nat.le_refl _) hb)
                    replace HR2 := hide (HR2.out.below hb)
                    replace HO1 := hide (HO1.out.below hb)
                    clear hO hb
                    go_wp2_with fail
                    refine (XG4.out _ _ _ HO2.out).mono ?_
                    rintro e w4 ⟨rfl, hb⟩
                    replace K := hide (below_more K.out (Nat.le_refl _) hb)
                    replace HR2 := hide (HR2.out.below hb)
                    replace HO1 := hide (HO1.out.below hb)
                    clear hb
                    go_wp2_with fail
                    refine (XE.out _ _ _ HO1.out HC1.out).mono ?_
                    rintro e w4 ⟨A3, c3, rfl, hO, hb⟩
                    have HO3 := hide (hO.rd)
                    replace K := hide (below_more K.out (Nat.le_refl _) hb)
                    replace HR2 := hide (HR2.out.below hb)
                    replace HO1 := hide (HO1.out.below hb)
                    clear hO hb
                    go_wp2_with fail
                    refine (XG5.out _ _ _ HO3.out).mono ?_
                    rintro e w4 ⟨rfl, hb⟩
                    replace K := hide (below_more K.out (Nat.le_refl _) hb)
                    replace HR2 := hide (HR2.out.below hb)
                    replace HO1 := hide (HO1.out.below hb)
                    replace HO3 := hide (HO3.out.below hb)
                    clear hb
                    go_wp2_with fail
                    refine (XC1.out _ _ _ HO1.out).mono ?_
                    rintro e w4 ⟨rfl, hb⟩
                    replace K := hide (below_more K.out (Nat.le_refl _) hb)
                    replace HR2 := hide (HR2.out.below hb)
                    replace HO1 := hide (HO1.out.below hb)
                    replace HO3 := hide (HO3.out.below hb)
                    clear hb
                    go_wp2_with fail
                    refine (XC2.out _ _ _ HO3.out).mono ?_
                    rintro e w4 ⟨rfl, hb⟩
                    replace K := hide (below_more K.out (Nat.le_refl _) hb)
                    replace HR2 := hide (HR2.out.below hb)
                    replace HO1 := hide (HO1.out.below hb)
                    clear hb
                    go_wp2_with fail
                    refine (XSM.out _ _ _ HR2.out (by have := HO1.out; rwa [HRE.out] at this)).mono ?_
                    rintro e w4 ⟨rfl, hb⟩
                    replace K := hide (below_more K.out (Nat.le_refl _) hb)
                    clear hb
                    go_wp2_with fail
                    refine (XH.out _).mono ?_
                    rintro e w9 ⟨rfl, hb⟩
                    replace K := hide (below_more K.out (Nat.le_refl _) hb)
                    clear hb
                    go_wp2_with fail
                    go_ret
                    exact ⟨rfl, K.out⟩
                  · have ngd : (gd == gc) = false := beq_eq_false_iff_ne.2 hdc
                    cases got with
                    | true => exact absurd (v2 rfl) hdc
                    | false =>
                      have v3 := v3 rfl
                      subst v3
                      clear ez fz hE hG v2 F5 F6 F7 hdc
                      go_enter Tryz.func4, Tryz.ntmps4
                      go_wp2_with fail
                      refine (XFW.out ()).mono ?_
                      rintro e w1 ⟨rfl, rfl⟩
                      go_wp2_with fail
                      refine XRC.out.mono ?_
                      rintro e w2 ⟨rfl, hb⟩
                      replace K := hide (below_more K.out (Nat.le_refl _) hb)
                      have HR2 := hide (HR.out.below hb)
                      clear hb
                      go_wp2_with fail
                      refine (XS.out _ HR2.out).mono ?_
                      rintro e w3 ⟨A1, c1, rfl, hO, hb⟩
                      have HO1 := hide (hO.rd)
                      have HC1 := hide (hO.le)
                      replace K := hide (below_more K.out (Nat.le_refl _) hb)
                      replace HR2 := hide (HR2.out.below hb)
                      clear hO hb
                      go_wp2_with fail
                      refine (XG1.out _ HR2.out).mono ?_
                      rintro e w4 ⟨rfl, hb⟩
                      replace K := hide (below_more K.out (Nat.le_refl _) hb)
                      replace HR2 := hide (HR2.out.below hb)
                      replace HO1 := hide (HO1.out.below hb)
                      clear hb
                      go_wp2_with fail
                      refine (XG2.out _ _ _ HO1.out).mono ?_
                      rintro e w4 ⟨rfl, hb⟩
                      replace K := hide (below_more K.out (Nat.le_refl _) hb)
                      replace HR2 := hide (HR2.out.below hb)
                      replace HO1 := hide (HO1.out.below hb)
                      clear hb
                      go_wp2_with fail
                      refine (XG3.out _ _ _ HO1.out).mono ?_
                      rintro e w4 ⟨rfl, hb⟩
                      replace K := hide (below_more K.out (Nat.le_refl _) hb)
                      replace HR2 := hide (HR2.out.below hb)
                      replace HO1 := hide (HO1.out.below hb)
                      clear hb
                      go_wp2_with fail
                      refine (XU.out _ _ _ HO1.out HC1.out).mono ?_
                      rintro e w4 ⟨A2, c2, rfl, hO, hb⟩
                      have HO2 := hide (hO.rd)
                      replace K := hide (below_more K.out (Nat.le_refl _) hb)
                      replace HR2 := hide (HR2.out.below hb)
                      replace HO1 := hide (HO1.out.below hb)
                      clear hO hb
                      go_wp2_with fail
                      refine (XG4.out _ _ _ HO2.out).mono ?_
                      rintro e w4 ⟨rfl, hb⟩
                      replace K := hide (below_more K.out (Nat.le_refl _) hb)
                      replace HR2 := hide (HR2.out.below hb)
                      replace HO1 := hide (HO1.out.below hb)
                      clear hb
                      go_wp2_with fail
                      refine (XE.out _ _ _ HO1.out HC1.out).mono ?_
                      rintro e w4 ⟨A3, c3, rfl, hO, hb⟩
                      have HO3 := hide (hO.rd)
                      replace K := hide (below_more K.out (Nat.le_refl _) hb)
                      replace HR2 := hide (HR2.out.below hb)
                      replace HO1 := hide (HO1.out.below hb)
                      clear hO hb
                      go_wp2_with fail
                      refine (XG5.out _ _ _ HO3.out).mono ?_
                      rintro e w4 ⟨rfl, hb⟩
                      replace K := hide (below_more K.out (Nat.le_refl _) hb)
                      replace HR2 := hide (HR2.out.below hb)
                      replace HO1 := hide (HO1.out.below hb)
                      replace HO3 := hide (HO3.out.below hb)
                      clear hb
                      go_wp2_with fail
                      refine (XC1.out _ _ _ HO1.out).mono ?_
                      rintro e w4 ⟨rfl, hb⟩
                      replace K := hide (below_more K.out (Nat.le_refl _) hb)
                      replace HR2 := hide (HR2.out.below hb)
                      replace HO1 := hide (HO1.out.below hb)
                      replace HO3 := hide (HO3.out.below hb)
                      clear hb
                      go_wp2_with fail
                      refine (XC2.out _ _ _ HO3.out).mono ?_
                      rintro e w4 ⟨rfl, hb⟩
                      replace K := hide (below_more K.out (Nat.le_refl _) hb)
                      replace HR2 := hide (HR2.out.below hb)
                      replace HO1 := hide (HO1.out.below hb)
                      clear hb
                      go_wp2_with fail
                      refine (XSM.out _ _ _ HR2.out (by have := HO1.out; rwa [HRE.out] at this)).mono ?_
                      rintro e w4 ⟨rfl, hb⟩
                      replace K := hide (below_more K.out (Nat.le_refl _) hb)
                      clear hb
                      go_wp2_with fail
                      refine (XH.out _).mono ?_
                      rintro e w9 ⟨rfl, hb⟩
                      replace K := hide (below_more K.out (Nat.le_refl _) hb)
                      clear hb
                      go_wp2_with fail
                      go_ret
                      exact ⟨rfl, K.out⟩
                · have g1 : (G == 0) = false := beq_eq_false_iff_ne.2 (by omega)
                  have g2 : (G != 0) = true := by rw [bne, g1]; rfl
                  clear ez fz hE hG F5 F6 F7
                  go_enter Tryz.func4, Tryz.ntmps4
                  go_wp2_with fail
                  refine (XFW.out ()).mono ?_
                  rintro e w1 ⟨rfl, rfl⟩
                  go_wp2_with fail
                  refine XRC.out.mono ?_
                  rintro e w2 ⟨rfl, hb⟩
                  replace K := hide (below_more K.out (Nat.le_refl _) hb)
                  have HR2 := hide (HR.out.below hb)
                  clear hb
                  go_wp2_with fail
                  refine (XS.out _ HR2.out).mono ?_
                  rintro e w3 ⟨A1, c1, rfl, hO, hb⟩
                  have HO1 := hide (hO.rd)
                  have HC1 := hide (hO.le)
                  replace K := hide (below_more K.out (Nat.le_refl _) hb)
                  replace HR2 := hide (HR2.out.below hb)
                  clear hO hb
                  go_wp2_with fail
                  refine (XG1.out _ HR2.out).mono ?_
                  rintro e w4 ⟨rfl, hb⟩
                  replace K := hide (below_more K.out (Nat.le_refl _) hb)
                  replace HR2 := hide (HR2.out.below hb)
                  replace HO1 := hide (HO1.out.below hb)
                  clear hb
                  go_wp2_with fail
                  refine (XG2.out _ _ _ HO1.out).mono ?_
                  rintro e w4 ⟨rfl, hb⟩
                  replace K := hide (below_more K.out (Nat.le_refl _) hb)
                  replace HR2 := hide (HR2.out.below hb)
                  replace HO1 := hide (HO1.out.below hb)
                  clear hb
                  go_wp2_with fail
                  refine (XG3.out _ _ _ HO1.out).mono ?_
                  rintro e w4 ⟨rfl, hb⟩
                  replace K := hide (below_more K.out (Nat.le_refl _) hb)
                  replace HR2 := hide (HR2.out.below hb)
                  replace HO1 := hide (HO1.out.below hb)
                  clear hb
                  go_wp2_with fail
                  refine (XU.out _ _ _ HO1.out HC1.out).mono ?_
                  rintro e w4 ⟨A2, c2, rfl, hO, hb⟩
                  have HO2 := hide (hO.rd)
                  replace K := hide (below_more K.out (Nat.le_refl _) hb)
                  replace HR2 := hide (HR2.out.below hb)
                  replace HO1 := hide (HO1.out.below hb)
                  clear hO hb
                  go_wp2_with fail
                  refine (XG4.out _ _ _ HO2.out).mono ?_
                  rintro e w4 ⟨rfl, hb⟩
                  replace K := hide (below_more K.out (Nat.le_refl _) hb)
                  replace HR2 := hide (HR2.out.below hb)
                  replace HO1 := hide (HO1.out.below hb)
                  clear hb
                  go_wp2_with fail
                  refine (XE.out _ _ _ HO1.out HC1.out).mono ?_
                  rintro e w4 ⟨A3, c3, rfl, hO, hb⟩
                  have HO3 := hide (hO.rd)
                  replace K := hide (below_more K.out (Nat.le_refl _) hb)
                  replace HR2 := hide (HR2.out.below hb)
                  replace HO1 := hide (HO1.out.below hb)
                  clear hO hb
                  go_wp2_with fail
                  refine (XG5.out _ _ _ HO3.out).mono ?_
                  rintro e w4 ⟨rfl, hb⟩
                  replace K := hide (below_more K.out (Nat.le_refl _) hb)
                  replace HR2 := hide (HR2.out.below hb)
                  replace HO1 := hide (HO1.out.below hb)
                  replace HO3 := hide (HO3.out.below hb)
                  clear hb
                  go_wp2_with fail
                  refine (XC1.out _ _ _ HO1.out).mono ?_
                  rintro e w4 ⟨rfl, hb⟩
                  replace K := hide (below_more K.out (Nat.le_refl _) hb)
                  replace HR2 := hide (HR2.out.below hb)
                  replace HO1 := hide (HO1.out.below hb)
                  replace HO3 := hide (HO3.out.below hb)
                  clear hb
                  go_wp2_with fail
                  refine (XC2.out _ _ _ HO3.out).mono ?_
                  rintro e w4 ⟨rfl, hb⟩
                  replace K := hide (below_more K.out (Nat.le_refl _) hb)
                  replace HR2 := hide (HR2.out.below hb)
                  replace HO1 := hide (HO1.out.below hb)
                  clear hb
                  go_wp2_with fail
                  refine (XSM.out _ _ _ HR2.out (by have := HO1.out; rwa [HRE.out] at this)).mono ?_
                  rintro e w4 ⟨rfl, hb⟩
                  replace K := hide (below_more K.out (Nat.le_refl _) hb)
                  clear hb
                  go_wp2_with fail
                  refine (XH.out _).mono ?_
                  rintro e w9 ⟨rfl, hb⟩
                  replace K := hide (below_more K.out (Nat.le_refl _) hb)
                  clear hb
                  go_wp2_with fail
                  go_ret
                  exact ⟨rfl, K.out⟩
          · have y3 : (1100 : Int) < (ot.length : Int) := by omega
            go_enter Tryz.func4, Tryz.ntmps4
            go_wp2_with fail
            refine (XFW.out ()).mono ?_
            rintro e w1 ⟨rfl, rfl⟩
            go_wp2_with fail
            refine XRC.out.mono ?_
            rintro e w2 ⟨rfl, hb⟩
            replace K := hide (below_more K.out (Nat.le_refl _) hb)
            have HR2 := hide (HR.out.below hb)
            clear hb
            go_wp2_with fail
            refine (XH.out _).mono ?_
            rintro e w9 ⟨rfl, hb⟩
            replace K := hide (below_more K.out (Nat.le_refl _) hb)
            clear hb
            go_wp2_with fail
            go_ret
            exact ⟨rfl, K.out⟩
        · have y2 : (1100 : Int) < (vl.length : Int) := by omega
          go_enter Tryz.func4, Tryz.ntmps4
          go_wp2_with fail
          refine (XFW.out ()).mono ?_
          rintro e w1 ⟨rfl, rfl⟩
          go_wp2_with fail
          refine XRC.out.mono ?_
          rintro e w2 ⟨rfl, hb⟩
          replace K := hide (below_more K.out (Nat.le_refl _) hb)
          have HR2 := hide (HR.out.below hb)
          clear hb
          go_wp2_with fail
          refine (XH.out _).mono ?_
          rintro e w9 ⟨rfl, hb⟩
          replace K := hide (below_more K.out (Nat.le_refl _) hb)
          clear hb
          go_wp2_with fail
          go_ret
          exact ⟨rfl, K.out⟩
      · have y1 : (1100 : Int) < (nm.length : Int) := by omega
        go_enter Tryz.func4, Tryz.ntmps4
        go_wp2_with fail
        refine (XFW.out ()).mono ?_
        rintro e w1 ⟨rfl, rfl⟩
        go_wp2_with fail
        refine XRC.out.mono ?_
        rintro e w2 ⟨rfl, hb⟩
        replace K := hide (below_more K.out (Nat.le_refl _) hb)
        have HR2 := hide (HR.out.below hb)
        clear hb
        go_wp2_with fail
        refine (XH.out _).mono ?_
        rintro e w9 ⟨rfl, hb⟩
        replace K := hide (below_more K.out (Nat.le_refl _) hb)
        clear hb
        go_wp2_with fail
        go_ret
        exact ⟨rfl, K.out⟩
theorem sets_b (l0 : List Vr) (A0 : Option Addr) (n0 c0 : Nat) (a1 a2 a3 : ByteArray) (W : World) (w0 : RdV W A0 n0 l0) (x0 : n0 ≤ c0) : Calls Tryz.prog 4 #[.slice A0 n0 c0, .string a1, .string a2, .string a3] W fun e w' => e = .returned (.bool true) ∧ Below W.heap.size W w' := by
  obtain ⟨s1, rfl⟩ := bs_of a1
  obtain ⟨s2, rfl⟩ := bs_of a2
  obtain ⟨s3, rfl⟩ := bs_of a3
  exact sets_any l0 A0 n0 c0 s1 s2 s3 W w0 x0
end Go.Proofs.YtpioelpmdaeieaaGreatDoor
