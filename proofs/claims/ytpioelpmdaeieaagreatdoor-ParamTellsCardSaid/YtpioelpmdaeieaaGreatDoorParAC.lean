/- The law ParamTells. -/
import Derived.Test.YtpioelpmdaeieaaGreatDoorParV
import Derived.Test.YtpioelpmdaeieaaGreatDoorParAB
namespace Go.Proofs.YtpioelpmdaeieaaGreatDoor
open Go.RowKit
set_option linter.unusedVariables false
set_option maxRecDepth 100000 in
set_option maxHeartbeats 16000000 in
theorem tells_any (l : List Vr) (A : Option Addr) (n c : Nat) (nm vl : LB) (w : World) (hR : RdV w A n l) (hnc : n ≤ c) :
    Calls Tryz.prog 3 #[.slice A n c, .string ⟨nm.toArray⟩, .string ⟨vl.toArray⟩] w fun e w' => e = .returned (.bool true) ∧ Below w.heap.size w w' := by
  obtain ⟨i0, hi0, hz0, hz1, hz2⟩ := info_parts infoVar
  have XH := hide (fun W => heads_any W)
  have K := hide (Below.refl w.heap.size w)
  have hl := hR.len
  have XFW := hide (few_any l A n c w hR)
  have HR := hide hR
  have HL := hide hl
  obtain ⟨fw, hfw⟩ : ∃ b, fewP l = b := ⟨_, rfl⟩
  rw [hfw] at XFW
  have HFW := hide hfw
  clear hfw hR hl
  cases fw with
  | false =>
    go_enter Tryz.func3, Tryz.ntmps3
    go_wp2_with fail
    refine XFW.out.mono ?_
    rintro e w1 ⟨rfl, rfl⟩
    go_wp2_with fail
    refine (XH.out _).mono ?_
    rintro e w9 ⟨rfl, hb⟩
    replace K := hide (below_more K.out (Nat.le_refl _) hb)
    clear hb
    go_wp2_with fail
    go_ret
    exact ⟨rfl, K.out⟩
  | true =>
    obtain ⟨hn80, hs⟩ := few_names HFW.out
    have hn : n ≤ 80 := by have := HL.out; omega
    have HS := hide hs
    clear hs hn80
    by_cases z1 : nm.length ≤ 1100
    · have y1 : ¬ (1100 : Int) < (nm.length : Int) := by omega
      by_cases z2 : vl.length ≤ 1100
      · have y2 : ¬ (1100 : Int) < (vl.length : Int) := by omega
        have hown0 : (w.alloc (.cells #[] 42)).ownsRow w.heap.size 42 3 (.slice (some ⟨w.heap.size, 0, none⟩) 0 0) 0 [] := by
          refine ⟨rfl, .inr ⟨w.heap.size, 0, #[], rfl, Nat.le_refl _, ?_⟩⟩
          exact ⟨Blk.new w 42 #[], Nat.le_refl _, by simp [maxLen], by simp, by simp⟩
        have hrt := HR.out.alloc (.cells #[] 42)
        have XG := hide (fun A' c' W (h : RdV W A' n l) => get_any l HS.out nm A' n c' W h (by omega))
        have XRG := hide (fun A' c' W (h : RdV W A' n l) => rgetv_any l HS.out nm A' n c' W h (by omega))
        have XS := hide (fun A' c' W (h : RdV W A' n l) (h2 : n ≤ c') => set_any l HS.out nm vl (by omega) A' n c' W h (by omega) h2)
        have XRS := hide (fun A' c' W (h : RdV W A' n l) (h2 : n ≤ c') => rset_any l HS.out nm vl (by omega) A' n c' W h (by omega) h2)
        have XE := hide (fun A' c' W (h : RdV W A' n l) (h2 : n ≤ c') => export_any l HS.out nm (by omega) A' n c' W h (by omega) h2)
        have XRE := hide (fun A' c' W (h : RdV W A' n l) (h2 : n ≤ c') => rexport_any l HS.out nm (by omega) A' n c' W h (by omega) h2)
        have XU := hide (fun A' c' W (h : RdV W A' n l) (h2 : n ≤ c') => unset_any l HS.out nm A' n c' W h (by omega) h2)
        have XRU := hide (fun A' c' W (h : RdV W A' n l) (h2 : n ≤ c') => runset_any l HS.out nm A' n c' W h (by omega) h2)
        have XV := hide (fun A' c' W (h : RdV W A' n l) => env_any l HS.out A' n c' W h (by omega))
        have XRV := hide (fun A' c' W (h : RdV W A' n l) => renv_any l HS.out A' n c' W h (by omega))
        have XK := hide (fun A' c' W (h : RdV W A' n l) => check_any l HS.out A' n c' W h (by omega))
        have XRK := hide (fun A' c' W (h : RdV W A' n l) => rcheck_any l HS.out A' n c' W h (by omega))
        have hs1 : (chgP l nm (setV vl)).1.length ≤ 1000000 := by
          have := HL.out
          unfold chgP
          split
          · split
            · simp only [List.length_append, List.length_take, List.length_drop, List.length_singleton]; omega
            · split
              · show l.length ≤ _; omega
              · simp only [List.length_append, List.length_take, List.length_drop, List.length_singleton]; omega
          · show l.length ≤ _; omega
        have hs2 : (chgP l nm expV).1.length ≤ 1000000 := by
          have := HL.out
          unfold chgP
          split
          · split
            · simp only [List.length_append, List.length_take, List.length_drop, List.length_singleton]; omega
            · split
              · show l.length ≤ _; omega
              · simp only [List.length_append, List.length_take, List.length_drop, List.length_singleton]; omega
          · show l.length ≤ _; omega
        have hs3 : (unsP l nm).length ≤ 1000000 := by
          have := HL.out
          unfold unsP
          split
          · simp only [List.length_append, List.length_take, List.length_drop]; omega
          · omega
        have hs4 : (envP l).length ≤ 1000000 := by
          unfold envP
          split
          · unfold ofP; rw [List.length_map, List.length_take]; omega
          · simp
        obtain ⟨r, hr⟩ : ∃ r, chgP l nm (setV vl) = r := ⟨_, rfl⟩
        obtain ⟨x, hx⟩ : ∃ x, chgP l nm expV = x := ⟨_, rfl⟩
        rw [hr] at XS XRS hs1
        rw [hx] at XE XRE hs2
        obtain ⟨rl, re⟩ := r
        obtain ⟨xl, xe⟩ := x
        dsimp only at XS XRS XE XRE hs1 hs2
        clear hr hx
        generalize unsP l nm = u at *
        generalize envP l = ev at *
        generalize getP l nm = ga at *
        generalize hasP l nm = ok at *
        generalize checkP l = ck at *
        obtain ⟨q, hq⟩ : ∃ q, rl.length = q := ⟨_, rfl⟩
        obtain ⟨qx, hqx⟩ : ∃ q, xl.length = q := ⟨_, rfl⟩
        obtain ⟨qu, hqu⟩ : ∃ q, u.length = q := ⟨_, rfl⟩
        obtain ⟨qv, hqv⟩ : ∃ q, ev.length = q := ⟨_, rfl⟩
        rw [hq] at XS XRS hs1
        rw [hqx] at XE XRE hs2
        rw [hqu] at XU XRU hs3
        rw [hqv] at XV XRV hs4
        clear hq hqx hqu hqv
        obtain ⟨E, hE⟩ : ∃ E : Int, (re : Int) = E := ⟨_, rfl⟩
        obtain ⟨G, hG⟩ : ∃ G : Int, (xe : Int) = G := ⟨_, rfl⟩
        rw [hE] at XS XRS
        rw [hG] at XE XRE
        have XM1 := hide (fun A' B' c' d' W (h : RdV W A' q rl) (h2 : RdV W B' q rl) => same_eq rl A' B' q c' q d' W h h2 hs1)
        have XM2 := hide (fun A' B' c' d' W (h : RdV W A' qx xl) (h2 : RdV W B' qx xl) => same_eq xl A' B' qx c' qx d' W h h2 hs2)
        have XM3 := hide (fun A' B' c' d' W (h : RdV W A' qu u) (h2 : RdV W B' qu u) => same_eq u A' B' qu c' qu d' W h h2 hs3)
        have XM4 := hide (fun A' B' c' d' W (h : RdV W A' n l) (h2 : RdV W B' n l) => same_eq l A' B' n c' n d' W h h2 (by omega))
        have XTX := hide (fun A' B' c' d' W (h : Reads W W.heap.size 1 A' qv (svs ev)) (h2 : Reads W W.heap.size 1 B' qv (svs ev)) => texts_eq ev A' B' qv c' qv d' W h h2 hs4)
        have e1 : (ga == ga) = true := by simp
        have e2 : (ok == ok) = true := by simp
        have e3 : (E == E) = true := by simp
        have e4 : (G == G) = true := by simp
        have e5 : (ck == ck) = true := by simp
        clear hE hG hs1 hs2 hs3
        go_enter Tryz.func3, Tryz.ntmps3
        go_wp2_with fail
        refine XFW.out.mono ?_
        rintro e w1 ⟨rfl, hw1⟩
        subst hw1
        go_wp2_with (at_builtin; (refine wpList_append_any _ rfl (.tmp 34) (.tmp 35) 22 rfl w.heap.size 42 i0 _ 3 40 Tryz.underlying22 hi0 hz0 hz1 hz2 rfl (by omega) (.slice (some ⟨w.heap.size, 0, none⟩) 0 0) 0 [] rfl hown0 _ A n c (vvs l) rfl hrt (vvs_one _) ?c1 ?c2 (by simp) ?_))
        case c1 => unfold maxLen; omega
        case c2 => omega
        intro v3 w3 hown3 hg3 hat3
        obtain ⟨A3, c3, rfl⟩ := own_slice hown3
        have HO3 : Hid (OwV w.heap.size w3 A3 n c3 l) := hide (by unfold OwV; simpa using hown3)
        have HN := hide HO3.out.rd
        have HC := hide HO3.out.le
        replace K : Hid (Below w.heap.size w w3) := hide (((Below.refl _ _).alloc (Nat.le_refl _) _).grown hg3 (by simp) (fun g hg => by simp [Value.ownBlock] at hg; omega))
        have HV := hide (HR.out.below K.out)
        clear hown0 hrt hown3 hg3 hat3 HO3
        try simp only [Nat.zero_add]
        go_wp2_with fail
        refine (XG.out _ _ _ HN.out).mono ?_
        rintro e w4 ⟨rfl, hb⟩
        replace K := hide (below_more K.out (Nat.le_refl _) hb)
        replace HN := hide (HN.out.below hb)
        replace HV := hide (HV.out.below hb)
        clear hb
        go_wp2_with fail
        refine (XRG.out _ _ _ HV.out).mono ?_
        rintro e w4 ⟨rfl, hb⟩
        replace K := hide (below_more K.out (Nat.le_refl _) hb)
        replace HN := hide (HN.out.below hb)
        replace HV := hide (HV.out.below hb)
        clear hb
        go_wp2_with fail
        refine (XS.out _ _ _ HN.out HC.out).mono ?_
        rintro e w4 ⟨AS, cs, rfl, hO, hb⟩
        replace K := hide (below_more K.out (Nat.le_refl _) hb)
        replace HN := hide (HN.out.below hb)
        replace HV := hide (HV.out.below hb)
        have H1 := hide hO.rd
        clear hO
        clear hb
        go_wp2_with fail
        refine (XRS.out _ _ _ HV.out hnc).mono ?_
        rintro e w4 ⟨AT, ct, rfl, hO, hb⟩
        replace K := hide (below_more K.out (Nat.le_refl _) hb)
        replace HN := hide (HN.out.below hb)
        replace HV := hide (HV.out.below hb)
        replace H1 := hide (H1.out.below hb)
        have H2 := hide hO
        clear hO
        clear hb
        go_wp2_with fail
        refine (XE.out _ _ _ HN.out HC.out).mono ?_
        rintro e w4 ⟨AX, cx, rfl, hO, hb⟩
        replace K := hide (below_more K.out (Nat.le_refl _) hb)
        replace HN := hide (HN.out.below hb)
        replace HV := hide (HV.out.below hb)
        replace H1 := hide (H1.out.below hb)
        replace H2 := hide (H2.out.below hb)
        have H3 := hide hO.rd
        clear hO
        clear hb
        go_wp2_with fail
        refine (XRE.out _ _ _ HV.out hnc).mono ?_
        rintro e w4 ⟨AY, cy, rfl, hO, hb⟩
        replace K := hide (below_more K.out (Nat.le_refl _) hb)
        replace HN := hide (HN.out.below hb)
        replace HV := hide (HV.out.below hb)
        replace H1 := hide (H1.out.below hb)
        replace H2 := hide (H2.out.below hb)
        replace H3 := hide (H3.out.below hb)
        have H4 := hide hO
        clear hO
        clear hb
        go_wp2_with fail
        refine (XM1.out _ _ _ _ _ H1.out H2.out).mono ?_
        rintro e w4 ⟨rfl, hb⟩
        replace K := hide (below_more K.out (Nat.le_refl _) hb)
        replace HN := hide (HN.out.below hb)
        replace HV := hide (HV.out.below hb)
        replace H3 := hide (H3.out.below hb)
        replace H4 := hide (H4.out.below hb)
        clear hb
        go_wp2_with fail
        refine (XM2.out _ _ _ _ _ H3.out H4.out).mono ?_
        rintro e w4 ⟨rfl, hb⟩
        replace K := hide (below_more K.out (Nat.le_refl _) hb)
        replace HN := hide (HN.out.below hb)
        replace HV := hide (HV.out.below hb)
        clear hb
        go_wp2_with fail
        refine (XU.out _ _ _ HN.out HC.out).mono ?_
        rintro e w4 ⟨AU, cu, rfl, hO, hb⟩
        replace K := hide (below_more K.out (Nat.le_refl _) hb)
        replace HN := hide (HN.out.below hb)
        replace HV := hide (HV.out.below hb)
        have H5 := hide hO.rd
        clear hO
        clear hb
        go_wp2_with fail
        refine (XRU.out _ _ _ HV.out hnc).mono ?_
        rintro e w4 ⟨AW, cw, rfl, hO, hb⟩
        replace K := hide (below_more K.out (Nat.le_refl _) hb)
        replace HN := hide (HN.out.below hb)
        replace HV := hide (HV.out.below hb)
        replace H5 := hide (H5.out.below hb)
        have H6 := hide hO
        clear hO
        clear hb
        go_wp2_with fail
        refine (XM3.out _ _ _ _ _ H5.out H6.out).mono ?_
        rintro e w4 ⟨rfl, hb⟩
        replace K := hide (below_more K.out (Nat.le_refl _) hb)
        replace HN := hide (HN.out.below hb)
        replace HV := hide (HV.out.below hb)
        clear hb
        go_wp2_with fail
        refine (XV.out _ _ _ HN.out).mono ?_
        rintro e w4 ⟨AE, ce, rfl, hO, hb⟩
        replace K := hide (below_more K.out (Nat.le_refl _) hb)
        replace HN := hide (HN.out.below hb)
        replace HV := hide (HV.out.below hb)
        have H7 := hide hO.rd
        clear hO
        clear hb
        go_wp2_with fail
        refine (XRV.out _ _ _ HV.out).mono ?_
        rintro e w4 ⟨AF, cf, rfl, hO, hb⟩
        replace K := hide (below_more K.out (Nat.le_refl _) hb)
        replace HN := hide (HN.out.below hb)
        replace HV := hide (HV.out.below hb)
        have H8 := hide hO
        replace H7 := hide ((H7.out.below hb).more hb.size)
        clear hO
        clear hb
        go_wp2_with fail
        refine (XTX.out _ _ _ _ _ H7.out H8.out).mono ?_
        rintro e w4 ⟨rfl, hb⟩
        replace K := hide (below_more K.out (Nat.le_refl _) hb)
        replace HN := hide (HN.out.below hb)
        replace HV := hide (HV.out.below hb)
        clear hb
        go_wp2_with fail
        refine (XK.out _ _ _ HN.out).mono ?_
        rintro e w4 ⟨rfl, hb⟩
        replace K := hide (below_more K.out (Nat.le_refl _) hb)
        replace HN := hide (HN.out.below hb)
        replace HV := hide (HV.out.below hb)
        clear hb
        go_wp2_with fail
        refine (XRK.out _ _ _ HV.out).mono ?_
        rintro e w4 ⟨rfl, hb⟩
        replace K := hide (below_more K.out (Nat.le_refl _) hb)
        replace HN := hide (HN.out.below hb)
        replace HV := hide (HV.out.below hb)
        clear hb
        go_wp2_with fail
        refine (XM4.out _ _ _ _ _ HN.out HV.out).mono ?_
        rintro e w4 ⟨rfl, hb⟩
        replace K := hide (below_more K.out (Nat.le_refl _) hb)
        clear hb
        go_wp2_with fail
        refine (XH.out _).mono ?_
        rintro e w9 ⟨rfl, hb⟩
        replace K := hide (below_more K.out (Nat.le_refl _) hb)
        clear hb
        go_wp2_with fail
        go_ret
        exact ⟨rfl, K.out⟩
      · have y2 : (1100 : Int) < (vl.length : Int) := by omega
        go_enter Tryz.func3, Tryz.ntmps3
        go_wp2_with fail
        refine XFW.out.mono ?_
        rintro e w1 ⟨rfl, rfl⟩
        go_wp2_with fail
        refine (XH.out _).mono ?_
        rintro e w9 ⟨rfl, hb⟩
        replace K := hide (below_more K.out (Nat.le_refl _) hb)
        clear hb
        go_wp2_with fail
        go_ret
        exact ⟨rfl, K.out⟩
    · have y1 : (1100 : Int) < (nm.length : Int) := by omega
      go_enter Tryz.func3, Tryz.ntmps3
      go_wp2_with fail
      refine XFW.out.mono ?_
      rintro e w1 ⟨rfl, rfl⟩
      go_wp2_with fail
      refine (XH.out _).mono ?_
      rintro e w9 ⟨rfl, hb⟩
      replace K := hide (below_more K.out (Nat.le_refl _) hb)
      clear hb
      go_wp2_with fail
      go_ret
      exact ⟨rfl, K.out⟩
theorem tells_b (l0 : List Vr) (A0 : Option Addr) (n0 c0 : Nat) (a1 a2 : ByteArray) (W : World) (w0 : RdV W A0 n0 l0) (x0 : n0 ≤ c0) : Calls Tryz.prog 3 #[.slice A0 n0 c0, .string a1, .string a2] W fun e w' => e = .returned (.bool true) ∧ Below W.heap.size W w' := by
  obtain ⟨s1, rfl⟩ := bs_of a1
  obtain ⟨s2, rfl⟩ := bs_of a2
  exact tells_any l0 A0 n0 c0 s1 s2 W w0 x0
end Go.Proofs.YtpioelpmdaeieaaGreatDoor
