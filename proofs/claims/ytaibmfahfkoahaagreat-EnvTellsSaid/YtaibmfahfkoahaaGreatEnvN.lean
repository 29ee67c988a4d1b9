/- The contracts of the document's Set and Unset of settings. -/
import Derived.Test.YtaibmfahfkoahaaGreatEnvY
import Derived.Test.YtaibmfahfkoahaaGreatEnvX
namespace Go.Proofs.YtaibmfahfkoahaaGreat
open Go.RowKit
set_option linter.unusedVariables false
set_option maxRecDepth 100000 in
set_option maxHeartbeats 8000000 in
theorem rset_any (l : List LB) (hs : ∀ s ∈ l, s.length ≤ 100000) (nm vl : LB) (h1 : nm.length ≤ 1000) (h2 : vl.length ≤ 1000) (A : Option Addr) (n c : Nat) (w : World) (hR : Reads w w.heap.size 1 A n (svs l)) (hn : n ≤ 1000) (hnc : n ≤ c) :
    Calls Tryz.prog 9 #[.slice A n c, .string ⟨nm.toArray⟩, .string ⟨vl.toArray⟩] w fun e w' => ∃ A' n' c', e = .returned (.tuple #[.slice A' n' c', .int .i64 ((setP l nm vl).2 : Int)]) ∧ Reads w' w'.heap.size 1 A' n' (svs (setP l nm vl).1) ∧ Below w.heap.size w w' := by
  have XC := hide (rechk_any l (fun s h => by have := hs s h; omega) A n c w hR (by omega))
  have HR := hide hR
  clear hR hs
  have y1 : ¬ (1000 : Int) < (nm.length : Int) := by omega
  have y2 : ¬ (1000 : Int) < (vl.length : Int) := by omega
  obtain ⟨C, hC⟩ : ∃ C, envChk l = C := ⟨_, rfl⟩
  rw [hC] at XC
  cases C with
  | false =>
    rw [set_no (by rw [hC]; rfl)]
    clear hC
    go_enter Tryz.func9, Tryz.ntmps9
    go_wp2_with fail
    with_reducible refine XC.out.mono ?_
    rintro e w1 ⟨rfl, hb⟩
    have HB := hide hb
    replace HR := hide (rb HR.out hb)
    clear hb XC
    go_wp2_with fail
    refine bodyPost_ret (v := .tuple #[.slice A n c, .int .i64 2]) (by simp only [results, Tryz.results9]; go_simp) rfl ⟨A, n, c, rfl, HR.out, HB.out⟩
  | true =>
    have htl : (textS (nm, vl)).length ≤ 1000000000 := by unfold textS; rw [List.length_append, List.length_cons]; dsimp only; omega
    have XK : Hid (∀ W, Calls Tryz.prog 22 #[.string ⟨(textS (nm, vl)).toArray⟩] W fun e w' => e = .returned (rcutV (textS (nm, vl))) ∧ Below W.heap.size W w') := hide (fun W => rcut_any (textS (nm, vl)) W htl)
    have HCAT : Hid ((⟨nm.toArray⟩ ++ ⟨#[61]⟩) ++ ⟨vl.toArray⟩ = (⟨(textS (nm, vl)).toArray⟩ : ByteArray)) := hide (by
      have e1 := catB nm [61]
      have e2 := catB (nm ++ [61]) vl
      rw [show (⟨#[61]⟩ : ByteArray) = ⟨([61] : LB).toArray⟩ from rfl, e1, e2]
      unfold textS
      simp)
    have hza : ¬ 9223372036854775807 < nm.length + 1 := by omega
    have hzb : ¬ 9223372036854775807 < nm.length + 1 + vl.length := by omega
    have hf := forms_eq nm vl
    unfold rcutV at XK
    obtain ⟨t, ht⟩ : ∃ t, textS (nm, vl) = t := ⟨_, rfl⟩
    rw [ht] at XK HCAT hf
    obtain ⟨P, hP⟩ : ∃ P, parseP t = P := ⟨_, rfl⟩
    rw [hP] at XK hf
    cases P with
    | none =>
      rw [set_no (by rw [hC, hf]; rfl)]
      dsimp only [Option.getD, Option.isSome] at XK
      clear hC hf ht hP htl
      go_enter Tryz.func9, Tryz.ntmps9
      go_wp2_with fail
      with_reducible refine XC.out.mono ?_
      rintro e w1 ⟨rfl, hb⟩
      have HB := hide hb
      replace HR := hide (rb HR.out hb)
      clear hb XC
      go_wp2_with fail
      rw [HCAT.out]
      with_reducible refine (XK.out _).mono ?_
      rintro e w2 ⟨rfl, hb⟩
      replace HB := hide (below_more HB.out (Nat.le_refl _) hb)
      replace HR := hide (rb HR.out hb)
      clear hb XK
      go_wp2_with fail
      refine bodyPost_ret (v := .tuple #[.slice A n c, .int .i64 2]) (by simp only [results, Tryz.results9]; go_simp) rfl ⟨A, n, c, rfl, HR.out, HB.out⟩
    | some p =>
      obtain ⟨pn, pv⟩ := p
      dsimp only [Option.getD, Option.isSome] at XK hf
      rw [Bool.true_and] at hf
      cases hq : (pn == nm) with
      | false =>
        rw [hq] at hf
        have hq2 : (pn != nm) = true := by rw [bne, hq]; rfl
        rw [set_no (by rw [hC, hf]; rfl)]
        clear hC hf ht hP htl
        go_enter Tryz.func9, Tryz.ntmps9
        go_wp2_with fail
        with_reducible refine XC.out.mono ?_
        rintro e w1 ⟨rfl, hb⟩
        have HB := hide hb
        replace HR := hide (rb HR.out hb)
        clear hb XC
        go_wp2_with fail
        rw [HCAT.out]
        with_reducible refine (XK.out _).mono ?_
        rintro e w2 ⟨rfl, hb⟩
        replace HB := hide (below_more HB.out (Nat.le_refl _) hb)
        replace HR := hide (rb HR.out hb)
        clear hb XK
        go_wp2_with fail
        refine bodyPost_ret (v := .tuple #[.slice A n c, .int .i64 2]) (by simp only [results, Tryz.results9]; go_simp) rfl ⟨A, n, c, rfl, HR.out, HB.out⟩
      | true =>
        rw [hq] at hf
        obtain rfl : pn = nm := by simpa using hq
        have hF := hf
        have hp : parseP t = some (pn, vl) := by
          have := of_decide_eq_true (p := parseP (textS (pn, vl)) = some (pn, vl)) (by rw [← hF]; rfl)
          rw [ht] at this
          exact this
        have hpv : pv = vl := by rw [hP] at hp; injection hp with hp; injection hp
        subst hpv
        have hcf : (envChk l && formsP pn pv) = true := by rw [hC, hF]; rfl
        obtain ⟨g1, g2, g3, g4, g5⟩ := pairs_of hC
        have hgk := notK_good g3 pn
        have XW := hide (fun W (h : Reads W W.heap.size 1 A n (svs l)) => rwithout_any (pairsOf l) g3 pn A n c W (by rw [g1]; exact h) (by omega))
        have XP := hide (fun A' c' W (h : Reads W W.heap.size 1 A' (notK pn (pairsOf l)).length (svs ((notK pn (pairsOf l)).map textS))) (h2 : (notK pn (pairsOf l)).length ≤ c') => rput11_any (notK pn (pairsOf l)) hgk t (pn, pv) hp A' (notK pn (pairsOf l)).length c' W h (by have := notK_le pn (pairsOf l); omega) h2)
        have hins := put_ins g2 (pn, pv)
        dsimp only at hins XP
        rw [hins] at XP
        have hk := notK_le pn (pairsOf l)
        have q2 : (pn != pn) = false := by simp
        by_cases h32 : (notK pn (pairsOf l)).length = 32
        · rw [set_full hcf h32]
          rw [h32] at XW XP
          clear hC hF hf hcf g1 g2 g3 g4 g5 hgk hins h32 hk hP hp ht htl hq
          generalize pairsOf l = S at *
          go_enter Tryz.func9, Tryz.ntmps9
          go_wp2_with fail
          with_reducible refine XC.out.mono ?_
          rintro e w1 ⟨rfl, hb⟩
          have HB := hide hb
          replace HR := hide (rb HR.out hb)
          clear hb XC
          go_wp2_with fail
          rw [HCAT.out]
          with_reducible refine (XK.out _).mono ?_
          rintro e w2 ⟨rfl, hb⟩
          replace HB := hide (below_more HB.out (Nat.le_refl _) hb)
          replace HR := hide (rb HR.out hb)
          clear hb XK
          go_wp2_with fail
          with_reducible refine (XW.out _ HR.out).mono ?_
          rintro e w3 ⟨A3, c3, rfl, hO, hb⟩
          replace HB := hide (below_more HB.out (Nat.le_refl _) hb)
          replace HR := hide (rb HR.out hb)
          have HO := hide hO.rd
          have hc3 := hO.addr.1
          clear hO hb XW
          go_wp2_with fail
          rw [HCAT.out]
          with_reducible refine (XP.out _ _ _ HO.out hc3).mono ?_
          rintro e w4 ⟨A4, c4, rfl, hO, hb⟩
          replace HB := hide (below_more HB.out (Nat.le_refl _) hb)
          replace HR := hide (rb HR.out hb)
          clear hO hb XP
          go_wp2_with fail
          refine bodyPost_ret (v := .tuple #[.slice A n c, .int .i64 4]) (by simp only [results, Tryz.results9]; go_simp) rfl ⟨A, n, c, rfl, HR.out, HB.out⟩
        · rw [set_yes hcf h32]
          obtain ⟨q, hq0⟩ : ∃ q, (notK pn (pairsOf l)).length = q := ⟨_, rfl⟩
          rw [hq0] at XW XP hk h32
          have hql : q ≤ 31 := by omega
          have hgt : ¬ (32 : Int) < (q : Int) + 1 := by omega
          have hgt2 : ¬ (32 : Int) < ((q + 1 : Nat) : Int) := by omega
          clear hC hF hf hcf g1 g2 g3 g4 g5 hgk hins h32 hk hP hp ht htl hq hq0
          generalize pairsOf l = S at *
          go_enter Tryz.func9, Tryz.ntmps9
          go_wp2_with fail
          with_reducible refine XC.out.mono ?_
          rintro e w1 ⟨rfl, hb⟩
          have HB := hide hb
          replace HR := hide (rb HR.out hb)
          clear hb XC
          go_wp2_with fail
          rw [HCAT.out]
          with_reducible refine (XK.out _).mono ?_
          rintro e w2 ⟨rfl, hb⟩
          replace HB := hide (below_more HB.out (Nat.le_refl _) hb)
          replace HR := hide (rb HR.out hb)
          clear hb XK
          go_wp2_with fail
          with_reducible refine (XW.out _ HR.out).mono ?_
          rintro e w3 ⟨A3, c3, rfl, hO, hb⟩
          replace HB := hide (below_more HB.out (Nat.le_refl _) hb)
          have HO := hide hO.rd
          have hc3 := hO.addr.1
          clear hO hb XW
          go_wp2_with fail
          rw [HCAT.out]
          with_reducible refine (XP.out _ _ _ HO.out hc3).mono ?_
          rintro e w4 ⟨A4, c4, rfl, hO, hb⟩
          replace HB := hide (below_more HB.out (Nat.le_refl _) hb)
          have HO4 := hide hO.rd
          clear hO hb XP
          go_wp2_with fail
          refine bodyPost_ret (v := .tuple #[.slice A4 (q + 1) c4, .int .i64 0]) (by simp only [results, Tryz.results9]; go_simp) rfl ⟨A4, q + 1, c4, rfl, HO4.out, HB.out⟩
set_option maxRecDepth 100000 in
set_option maxHeartbeats 8000000 in
theorem runset_any (l : List LB) (hs : ∀ s ∈ l, s.length ≤ 100000) (nm : LB) (A : Option Addr) (n c : Nat) (w : World) (hR : Reads w w.heap.size 1 A n (svs l)) (hn : n ≤ 1000) :
    Calls Tryz.prog 14 #[.slice A n c, .string ⟨nm.toArray⟩] w fun e w' => ∃ A' n' c', e = .returned (.slice A' n' c') ∧ Reads w' w'.heap.size 1 A' n' (svs (unsE l nm)) ∧ Below w.heap.size w w' := by
  have XC := hide (rechk_any l (fun s h => by have := hs s h; omega) A n c w hR (by omega))
  have HR := hide hR
  clear hR hs
  obtain ⟨C, hC⟩ : ∃ C, envChk l = C := ⟨_, rfl⟩
  rw [hC] at XC
  cases C with
  | false =>
    rw [show unsE l nm = l by unfold unsE; rw [hC]; rfl]
    clear hC
    go_enter Tryz.func14, Tryz.ntmps14
    go_wp2_with fail
    with_reducible refine XC.out.mono ?_
    rintro e w1 ⟨rfl, hb⟩
    have HB := hide hb
    replace HR := hide (rb HR.out hb)
    clear hb XC
    go_wp2_with fail
    go_ret
    first | exact ⟨A, n, c, rfl, HR.out, HB.out⟩ | exact ⟨A, ⟨n, c, rfl⟩, HR.out, HB.out⟩ | exact ⟨A, n, ⟨c, rfl⟩, HR.out, HB.out⟩
  | true =>
    obtain ⟨g1, g2, g3, g4, g5⟩ := pairs_of hC
    rw [show unsE l nm = (notK nm (pairsOf l)).map textS by unfold unsE; rw [hC]; rfl]
    have XW := hide (fun W (h : Reads W W.heap.size 1 A n (svs l)) => rwithout_any (pairsOf l) g3 nm A n c W (by rw [g1]; exact h) (by omega))
    clear hC g1 g2 g3 g4 g5
    generalize pairsOf l = S at *
    obtain ⟨q, hq0⟩ : ∃ q, (notK nm S).length = q := ⟨_, rfl⟩
    rw [hq0] at XW
    clear hq0
    go_enter Tryz.func14, Tryz.ntmps14
    go_wp2_with fail
    with_reducible refine XC.out.mono ?_
    rintro e w1 ⟨rfl, hb⟩
    have HB := hide hb
    replace HR := hide (rb HR.out hb)
    clear hb XC
    go_wp2_with fail
    with_reducible refine (XW.out _ HR.out).mono ?_
    rintro e w3 ⟨A3, c3, rfl, hO, hb⟩
    replace HB := hide (below_more HB.out (Nat.le_refl _) hb)
    have HO := hide hO.rd
    clear hO hb XW
    go_wp2_with fail
    go_ret
    first | exact ⟨A3, q, c3, rfl, HO.out, HB.out⟩ | exact ⟨A3, ⟨q, c3, rfl⟩, HO.out, HB.out⟩ | exact ⟨A3, q, ⟨c3, rfl⟩, HO.out, HB.out⟩
end Go.Proofs.YtaibmfahfkoahaaGreat
