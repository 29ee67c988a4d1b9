/- The law EnvSets. -/
import Derived.Test.YtaibmfahfkoahaaEnvHc
namespace Go.Proofs.Ytaibmfahfkoahaa
open Go.RowKit
set_option linter.unusedVariables false
/-- Layer 11's Few. -/
def fewL (l : List LB) : Bool := decide (l.length ≤ 60) && l.all fun k => decide (k.length ≤ 600)
set_option maxHeartbeats 1000000 in
theorem few_any (l : List LB) (A : Option Addr) (n c : Nat) (w : World) (hA : Reads w w.heap.size 1 A n (svs l)) :
    Calls Try.prog 4 #[.slice A n c] w fun e w' => e = .returned (.bool (fewL l)) ∧ w = w' := by
  have hn := rd_len hA
  subst hn
  have HE : Hid (fewL l = (decide (l.length ≤ 60) && l.all fun k => decide (k.length ≤ 600))) := hide rfl
  have HA := hide hA
  clear hA
  by_cases h60 : l.length ≤ 60
  · go_enter Try.func4, Try.ntmps4
    go_wp2_with fail
    go_loop [3] (fun u3 => ∃ k : Nat, k ≤ l.length ∧ u3 = .int .i64 k ∧ Hid (∀ j (h : j < l.length), j < k → (l[j]).length ≤ 600)) (fun i => l.length - (intOf i).toNat)
    case atStart => exact ⟨0, Nat.zero_le _, rfl, hide (fun j h h2 => by omega)⟩
    case round =>
      obtain ⟨k, hk, rfl, HF⟩ := hrel
      by_cases hlt : k < l.length
      · obtain ⟨g, o, rfl, hg, hcl⟩ := cells_str HA.out (List.getElem?_eq_getElem hlt)
        have hcell := hcl
        by_cases hbig : 600 < (l[k]).length
        · have hbig' : (600 : Int) < ((l[k]).length : Int) := by omega
          have HE2 : Hid (fewL l = false) := hide (by
            rw [HE.out, Bool.and_eq_false_iff]
            right
            rw [List.all_eq_false]
            exact ⟨l[k], List.getElem_mem _, by simpa using hbig⟩)
          generalize l[k] = x at *
          clear hcl HF
          go_wp2_with fail
          go_ret
          exact ⟨ret_bool HE2.out.symm, rfl⟩
        · have hbig' : ¬ (600 : Int) < ((l[k]).length : Int) := by omega
          have HF2 : Hid (∀ j (h : j < l.length), j < k + 1 → (l[j]).length ≤ 600) := hide (fun j h h2 => by
            rcases Nat.lt_or_ge j k with h3 | h3
            · exact HF.out j h h3
            · obtain rfl : j = k := by omega
              omega)
          generalize l[k] = x at *
          clear hcl HF hbig
          go_wp2_with fail
          go_round
          case rel => exact ⟨k + 1, by omega, by go_num, HF2⟩
          case measure => simp [intOf]; omega
      · have HE2 : Hid (fewL l = true) := hide (by
          rw [HE.out, Bool.and_eq_true]
          refine ⟨by simpa using h60, ?_⟩
          rw [List.all_eq_true]
          intro x hx
          obtain ⟨j, hj, rfl⟩ := List.getElem_of_mem hx
          simpa using HF.out j hj (by omega))
        clear HF
        go_wp2_with fail
        go_ret
        exact ⟨by rw [HE2.out]; simp; omega, rfl⟩
  · have HE2 : Hid (fewL l = false) := hide (by rw [HE.out]; simp [h60])
    go_enter Try.func4, Try.ntmps4
    go_wp2_with fail
    go_loop [3] (fun u3 => u3 = .int .i64 0) (fun _ => 0)
    case atStart => rfl
    case round =>
      obtain rfl := hrel
      have hpos : (0 : Int) < (l.length : Int) := by omega
      go_wp2_with fail
      go_ret
      exact ⟨by rw [HE2.out]; simp; omega, rfl⟩
theorem few_of {l : List LB} (h : fewL l = true) : l.length ≤ 60 ∧ ∀ s ∈ l, s.length ≤ 600 := by
  unfold fewL at h
  rw [Bool.and_eq_true, decide_eq_true_eq, List.all_eq_true] at h
  exact ⟨h.1, fun s hs => by simpa using h.2 s hs⟩
theorem chk_len {l : List LB} (h : envChk l = true) : l.length ≤ 32 ∧ ∀ s ∈ l, s.length ≤ 256 := by
  obtain ⟨h1, h2, h3, h4, h5⟩ := pairs_of h
  refine ⟨h5, fun s hs => ?_⟩
  rw [← h1] at hs
  obtain ⟨p, hp, rfl⟩ := List.mem_map.1 hs
  exact (parse_name (h3 p hp)).2.1
set_option maxRecDepth 100000 in
set_option maxHeartbeats 16000000 in
theorem sets_any (l : List LB) (A : Option Addr) (n c : Nat) (nm vl ot : LB) (w : World) (hR : Reads w w.heap.size 1 A n (svs l)) :
    Calls Try.prog 3 #[.slice A n c, .string ⟨nm.toArray⟩, .string ⟨vl.toArray⟩, .string ⟨ot.toArray⟩] w fun e w' => e = .returned (.bool true) ∧ Below w.heap.size w w' := by
  have XH := hide (fun W => heads_any W)
  have K := hide (Below.refl w.heap.size w)
  have hl := rd_len hR
  have XFW := hide (few_any l A n c w hR)
  have HR := hide hR
  have HL := hide hl
  obtain ⟨fw, hfw⟩ : ∃ b, fewL l = b := ⟨_, rfl⟩
  rw [hfw] at XFW
  have HFW := hide hfw
  clear hfw hR hl
  cases fw with
  | false =>
    go_enter Try.func3, Try.ntmps3
    go_wp2_with fail
    with_reducible refine XFW.out.mono ?_
    rintro e w1 ⟨rfl, hw1⟩
    subst hw1
    go_wp2_with fail
    with_reducible refine (XH.out _).mono ?_
    rintro e w9 ⟨rfl, hb⟩
    replace K := hide (below_more K.out (Nat.le_refl _) hb)
    clear hb
    go_wp2_with fail
    go_ret
    exact ⟨rfl, K.out⟩
  | true =>
    obtain ⟨hl60, hs⟩ := few_of HFW.out
    have hn : n ≤ 60 := by have := HL.out; omega
    have HS := hide hs
    clear hs hl60
    by_cases z1 : nm.length ≤ 600
    · have y1 : ¬ (600 : Int) < (nm.length : Int) := by omega
      by_cases z2 : vl.length ≤ 600
      · have y2 : ¬ (600 : Int) < (vl.length : Int) := by omega
        by_cases z3 : ot.length ≤ 600
        · have y3 : ¬ (600 : Int) < (ot.length : Int) := by omega
          have XCK := hide (fun W (h : Reads W W.heap.size 1 A n (svs l)) => echeck_any l (fun s hs => by have := HS.out s hs; omega) A n c W h (by omega))
          obtain ⟨ck, hck⟩ : ∃ b, envChk l = b := ⟨_, rfl⟩
          rw [hck] at XCK
          have HCK := hide hck
          clear hck
          cases ck with
          | false =>
            go_enter Try.func3, Try.ntmps3
            go_wp2_with fail
            with_reducible refine XFW.out.mono ?_
            rintro e w1 ⟨rfl, hw1⟩
            subst hw1
            go_wp2_with fail
            with_reducible refine (XCK.out _ HR.out).mono ?_
            rintro e w4 ⟨rfl, hb⟩
            replace K := hide (below_more K.out (Nat.le_refl _) hb)
            replace HR := hide (rb HR.out hb)
            clear hb
            go_wp2_with fail
            with_reducible refine (XH.out _).mono ?_
            rintro e w9 ⟨rfl, hb⟩
            replace K := hide (below_more K.out (Nat.le_refl _) hb)
            clear hb
            go_wp2_with fail
            go_ret
            exact ⟨rfl, K.out⟩
          | true =>
            cases he : (ot == nm) with
            | true =>
              have HE := hide he
              have he2 : (ot == nm) = true := he
              go_enter Try.func3, Try.ntmps3
              go_wp2_with fail
              with_reducible refine XFW.out.mono ?_
              rintro e w1 ⟨rfl, hw1⟩
              subst hw1
              go_wp2_with fail
              with_reducible refine (XCK.out _ HR.out).mono ?_
              rintro e w4 ⟨rfl, hb⟩
              replace K := hide (below_more K.out (Nat.le_refl _) hb)
              replace HR := hide (rb HR.out hb)
              clear hb
              go_wp2_with fail
              with_reducible refine (XH.out _).mono ?_
              rintro e w9 ⟨rfl, hb⟩
              replace K := hide (below_more K.out (Nat.le_refl _) hb)
              clear hb
              go_wp2_with fail
              go_ret
              exact ⟨rfl, K.out⟩
            | false =>
              have hne : ot ≠ nm := by simpa using he
              have XS := hide (fun W (h : Reads W W.heap.size 1 A n (svs l)) => set_any l (fun s hs => by have := HS.out s hs; omega) nm vl (by omega) (by omega) A n c W h (by omega))
              have XG := hide (fun W (h : Reads W W.heap.size 1 A n (svs l)) => eget_any l (fun s hs => by have := HS.out s hs; omega) ot A n c W h (by omega))
              obtain ⟨s1, s2, s3, s4⟩ := set_spec HCK.out nm vl
              have s4' := s4 ot hne
              obtain ⟨r, hr⟩ : ∃ r, setP l nm vl = r := ⟨_, rfl⟩
              rw [hr] at XS s1 s2 s3 s4'
              clear s4 hr hne
              obtain ⟨m, e0⟩ := r
              dsimp only at XS s1 s2 s3 s4'
              obtain ⟨cm1, cm2⟩ := chk_len s1
              have XGM := hide (fun A' n' c' W (h : Reads W W.heap.size 1 A' n' (svs m)) (hn : n' ≤ 1000000) => eget_any m (fun s hs => by have := cm2 s hs; omega) ot A' n' c' W h hn)
              have XGN := hide (fun A' n' c' W (h : Reads W W.heap.size 1 A' n' (svs m)) (hn : n' ≤ 1000000) => eget_any m (fun s hs => by have := cm2 s hs; omega) nm A' n' c' W h hn)
              have XCM := hide (fun A' n' c' W (h : Reads W W.heap.size 1 A' n' (svs m)) (hn : n' ≤ 1000000) => echeck_any m (fun s hs => by have := cm2 s hs; omega) A' n' c' W h hn)
              have XU := hide (fun A' n' c' W (h : Reads W W.heap.size 1 A' n' (svs m)) (hn : n' ≤ 1000000) => unset_any m (fun s hs => by have := cm2 s hs; omega) nm A' n' c' W h hn)
              obtain ⟨u1, u2⟩ := unsE_spec s1 nm
              generalize unsE m nm = u at *
              obtain ⟨cu1, cu2⟩ := chk_len u1
              have XGU := hide (fun A' n' c' W (h : Reads W W.heap.size 1 A' n' (svs u)) (hn : n' ≤ 1000000) => eget_any u (fun s hs => by have := cu2 s hs; omega) nm A' n' c' W h hn)
              have XCU := hide (fun A' n' c' W (h : Reads W W.heap.size 1 A' n' (svs u)) (hn : n' ≤ 1000000) => echeck_any u (fun s hs => by have := cu2 s hs; omega) A' n' c' W h hn)
              rw [s1] at XCM
              rw [s4'] at XGM
              rw [u1] at XCU
              rw [u2] at XGU
              dsimp only [Option.getD, Option.isSome] at XGU
              obtain ⟨go, hgo⟩ : ∃ g, (getE l ot).getD [] = g := ⟨_, rfl⟩
              obtain ⟨gk, hgk⟩ : ∃ g, (getE l ot).isSome = g := ⟨_, rfl⟩
              rw [hgo, hgk] at XG XGM
              have x1 : (go != go) = false := by simp
              have x2 : (gk != gk) = false := by simp
              have x3 : (go == go) = true := by simp
              have x4 : (gk == gk) = true := by simp
              have S2 := hide s2
              have S3 := hide s3
              clear hgo hgk s2 s3 s4' u1 u2 s1 cm2 cu2
              by_cases hz : e0 = 0
              · subst hz
                have s3' := S3.out rfl
                rw [s3'] at XGN
                dsimp only [Option.getD, Option.isSome] at XGN
                have x5 : (vl == vl) = true := by simp
                clear s3' S2 S3
                go_enter Try.func3, Try.ntmps3
                go_wp2_with fail
                with_reducible refine XFW.out.mono ?_
                rintro e w1 ⟨rfl, hw1⟩
                subst hw1
                go_wp2_with fail
                with_reducible refine (XCK.out _ HR.out).mono ?_
                rintro e w4 ⟨rfl, hb⟩
                replace K := hide (below_more K.out (Nat.le_refl _) hb)
                replace HR := hide (rb HR.out hb)
                clear hb
                go_wp2_with fail
                with_reducible refine (XS.out _ HR.out).mono ?_
                rintro e w4 ⟨AM, nM, cM, rfl, hO, hb⟩
                replace K := hide (below_more K.out (Nat.le_refl _) hb)
                replace HR := hide (rb HR.out hb)
                have HM := hide hO.rd
                clear hO
                clear hb
                have hnM : nM ≤ 32 := by have h5 := HM.out.1; rw [svs_length] at h5; omega
                go_wp2_with fail
                with_reducible refine (XG.out _ HR.out).mono ?_
                rintro e w4 ⟨rfl, hb⟩
                replace K := hide (below_more K.out (Nat.le_refl _) hb)
                replace HR := hide (rb HR.out hb)
                replace HM := hide (rb HM.out hb)
                clear hb
                go_wp2_with fail
                with_reducible refine (XGM.out _ _ _ _ HM.out (by omega)).mono ?_
                rintro e w4 ⟨rfl, hb⟩
                replace K := hide (below_more K.out (Nat.le_refl _) hb)
                replace HR := hide (rb HR.out hb)
                replace HM := hide (rb HM.out hb)
                clear hb
                go_wp2_with fail
                with_reducible refine (XCM.out _ _ _ _ HM.out (by omega)).mono ?_
                rintro e w4 ⟨rfl, hb⟩
                replace K := hide (below_more K.out (Nat.le_refl _) hb)
                replace HR := hide (rb HR.out hb)
                replace HM := hide (rb HM.out hb)
                clear hb
                go_wp2_with fail
                with_reducible refine (XU.out _ _ _ _ HM.out (by omega)).mono ?_
                rintro e w4 ⟨AU, nU, cU, rfl, hO, hb⟩
                replace K := hide (below_more K.out (Nat.le_refl _) hb)
                replace HR := hide (rb HR.out hb)
                replace HM := hide (rb HM.out hb)
                have HU := hide hO.rd
                clear hO
                clear hb
                have hnU : nU ≤ 32 := by have h5 := HU.out.1; rw [svs_length] at h5; omega
                go_wp2_with fail
                with_reducible refine (XGU.out _ _ _ _ HU.out (by omega)).mono ?_
                rintro e w4 ⟨rfl, hb⟩
                replace K := hide (below_more K.out (Nat.le_refl _) hb)
                replace HR := hide (rb HR.out hb)
                replace HM := hide (rb HM.out hb)
                replace HU := hide (rb HU.out hb)
                clear hb
                go_wp2_with fail
                with_reducible refine (XCU.out _ _ _ _ HU.out (by omega)).mono ?_
                rintro e w4 ⟨rfl, hb⟩
                replace K := hide (below_more K.out (Nat.le_refl _) hb)
                replace HR := hide (rb HR.out hb)
                replace HM := hide (rb HM.out hb)
                replace HU := hide (rb HU.out hb)
                clear hb
                go_wp2_with fail
                with_reducible refine (XGN.out _ _ _ _ HM.out (by omega)).mono ?_
                rintro e w4 ⟨rfl, hb⟩
                replace K := hide (below_more K.out (Nat.le_refl _) hb)
                replace HR := hide (rb HR.out hb)
                replace HM := hide (rb HM.out hb)
                replace HU := hide (rb HU.out hb)
                clear hb
                go_wp2_with fail
                with_reducible refine (XH.out _).mono ?_
                rintro e w9 ⟨rfl, hb⟩
                replace K := hide (below_more K.out (Nat.le_refl _) hb)
                clear hb
                go_wp2_with fail
                go_ret
                exact ⟨rfl, K.out⟩
              · have hez : ((e0 : Int) == 0) = false := beq_eq_false_iff_ne.2 (by omega)
                have hez2 : ((e0 : Int) != 0) = true := by rw [bne, hez]; rfl
                have hm := S2.out hz
                subst hm
                have XTX := hide (fun A' B' n' m' c' d' W (h : Reads W W.heap.size 1 A' n' (svs m)) (h2 : Reads W W.heap.size 1 B' m' (svs m)) (hn : n' ≤ 1000000) => texts_eq m A' B' n' c' m' d' W h h2 hn)
                clear S2 S3 hz
                go_enter Try.func3, Try.ntmps3
                go_wp2_with fail
                with_reducible refine XFW.out.mono ?_
                rintro e w1 ⟨rfl, hw1⟩
                subst hw1
                go_wp2_with fail
                with_reducible refine (XCK.out _ HR.out).mono ?_
                rintro e w4 ⟨rfl, hb⟩
                replace K := hide (below_more K.out (Nat.le_refl _) hb)
                replace HR := hide (rb HR.out hb)
                clear hb
                go_wp2_with fail
                with_reducible refine (XS.out _ HR.out).mono ?_
                rintro e w4 ⟨AM, nM, cM, rfl, hO, hb⟩
                replace K := hide (below_more K.out (Nat.le_refl _) hb)
                replace HR := hide (rb HR.out hb)
                have HM := hide hO.rd
                clear hO
                clear hb
                have hnM : nM ≤ 32 := by have h5 := HM.out.1; rw [svs_length] at h5; omega
                go_wp2_with fail
                with_reducible refine (XG.out _ HR.out).mono ?_
                rintro e w4 ⟨rfl, hb⟩
                replace K := hide (below_more K.out (Nat.le_refl _) hb)
                replace HR := hide (rb HR.out hb)
                replace HM := hide (rb HM.out hb)
                clear hb
                go_wp2_with fail
                with_reducible refine (XGM.out _ _ _ _ HM.out (by omega)).mono ?_
                rintro e w4 ⟨rfl, hb⟩
                replace K := hide (below_more K.out (Nat.le_refl _) hb)
                replace HR := hide (rb HR.out hb)
                replace HM := hide (rb HM.out hb)
                clear hb
                go_wp2_with fail
                with_reducible refine (XCM.out _ _ _ _ HM.out (by omega)).mono ?_
                rintro e w4 ⟨rfl, hb⟩
                replace K := hide (below_more K.out (Nat.le_refl _) hb)
                replace HR := hide (rb HR.out hb)
                replace HM := hide (rb HM.out hb)
                clear hb
                go_wp2_with fail
                with_reducible refine (XU.out _ _ _ _ HM.out (by omega)).mono ?_
                rintro e w4 ⟨AU, nU, cU, rfl, hO, hb⟩
                replace K := hide (below_more K.out (Nat.le_refl _) hb)
                replace HR := hide (rb HR.out hb)
                replace HM := hide (rb HM.out hb)
                have HU := hide hO.rd
                clear hO
                clear hb
                have hnU : nU ≤ 32 := by have h5 := HU.out.1; rw [svs_length] at h5; omega
                go_wp2_with fail
                with_reducible refine (XGU.out _ _ _ _ HU.out (by omega)).mono ?_
                rintro e w4 ⟨rfl, hb⟩
                replace K := hide (below_more K.out (Nat.le_refl _) hb)
                replace HR := hide (rb HR.out hb)
                replace HM := hide (rb HM.out hb)
                replace HU := hide (rb HU.out hb)
                clear hb
                go_wp2_with fail
                with_reducible refine (XCU.out _ _ _ _ HU.out (by omega)).mono ?_
                rintro e w4 ⟨rfl, hb⟩
                replace K := hide (below_more K.out (Nat.le_refl _) hb)
                replace HR := hide (rb HR.out hb)
                replace HM := hide (rb HM.out hb)
                replace HU := hide (rb HU.out hb)
                clear hb
                go_wp2_with fail
                with_reducible refine (XTX.out _ _ _ _ _ _ _ HR.out HM.out (by omega)).mono ?_
                rintro e w4 ⟨rfl, hb⟩
                replace K := hide (below_more K.out (Nat.le_refl _) hb)
                replace HR := hide (rb HR.out hb)
                replace HM := hide (rb HM.out hb)
                replace HU := hide (rb HU.out hb)
                clear hb
                go_wp2_with fail
                with_reducible refine (XH.out _).mono ?_
                rintro e w9 ⟨rfl, hb⟩
                replace K := hide (below_more K.out (Nat.le_refl _) hb)
                clear hb
                go_wp2_with fail
                go_ret
                exact ⟨rfl, K.out⟩
        · have y3 : (600 : Int) < (ot.length : Int) := by omega
          go_enter Try.func3, Try.ntmps3
          go_wp2_with fail
          with_reducible refine XFW.out.mono ?_
          rintro e w1 ⟨rfl, hw1⟩
          subst hw1
          go_wp2_with fail
          with_reducible refine (XH.out _).mono ?_
          rintro e w9 ⟨rfl, hb⟩
          replace K := hide (below_more K.out (Nat.le_refl _) hb)
          clear hb
          go_wp2_with fail
          go_ret
          exact ⟨rfl, K.out⟩
      · have y2 : (600 : Int) < (vl.length : Int) := by omega
        go_enter Try.func3, Try.ntmps3
        go_wp2_with fail
        with_reducible refine XFW.out.mono ?_
        rintro e w1 ⟨rfl, hw1⟩
        subst hw1
        go_wp2_with fail
        with_reducible refine (XH.out _).mono ?_
        rintro e w9 ⟨rfl, hb⟩
        replace K := hide (below_more K.out (Nat.le_refl _) hb)
        clear hb
        go_wp2_with fail
        go_ret
        exact ⟨rfl, K.out⟩
    · have y1 : (600 : Int) < (nm.length : Int) := by omega
      go_enter Try.func3, Try.ntmps3
      go_wp2_with fail
      with_reducible refine XFW.out.mono ?_
      rintro e w1 ⟨rfl, hw1⟩
      subst hw1
      go_wp2_with fail
      with_reducible refine (XH.out _).mono ?_
      rintro e w9 ⟨rfl, hb⟩
      replace K := hide (below_more K.out (Nat.le_refl _) hb)
      clear hb
      go_wp2_with fail
      go_ret
      exact ⟨rfl, K.out⟩
theorem sets_b (A0 : Option Addr) (n0 c0 : Nat) (k0 : List LB) (a1 a2 a3 : ByteArray) (W : World) (w0 : Reads W W.heap.size 1 A0 n0 (svs k0)) : Calls Try.prog 3 #[.slice A0 n0 c0, .string a1, .string a2, .string a3] W fun e w' => e = .returned (.bool true) ∧ Below W.heap.size W w' := by
  obtain ⟨s1, rfl⟩ := bs_of a1
  obtain ⟨s2, rfl⟩ := bs_of a2
  obtain ⟨s3, rfl⟩ := bs_of a3
  exact sets_any k0 A0 n0 c0 s1 s2 s3 W w0
end Go.Proofs.Ytaibmfahfkoahaa
