/- The law EnvTells. -/
import Derived.Test.YtaibmfahfkoahaaGreatEnvHc
import Derived.Test.YtaibmfahfkoahaaGreatEnvN
namespace Go.Proofs.YtaibmfahfkoahaaGreat
open Go.RowKit
set_option linter.unusedVariables false
/-- Layer 11's Few. -/
def fewL (l : List LB) : Bool := decide (l.length ≤ 60) && l.all fun k => decide (k.length ≤ 600)
set_option maxHeartbeats 1000000 in
theorem few_any (l : List LB) (A : Option Addr) (n c : Nat) (w : World) (hA : Reads w w.heap.size 1 A n (svs l)) :
    Calls Tryz.prog 4 #[.slice A n c] w fun e w' => e = .returned (.bool (fewL l)) ∧ w = w' := by
  have hn := rd_len hA
  subst hn
  have HE : Hid (fewL l = (decide (l.length ≤ 60) && l.all fun k => decide (k.length ≤ 600))) := hide rfl
  have HA := hide hA
  clear hA
  by_cases h60 : l.length ≤ 60
  · go_enter Tryz.func4, Tryz.ntmps4
    go_wp2_with fail
    go_loop [3] (fun u3 => ∃ k : Nat, k ≤ l.length ∧ u3 = .int .i64 k ∧ Hid (∀ j (h : j < l.length), j < k → (l[j]).length ≤ 600)) (fun i => l.length - (intOf i).toNat)
    case atStart => exact ⟨0, Nat.zero_le _, rfl, hide (fun j h h2 => by omega)⟩
    case round =>
      obtain ⟨k, hk, rfl, HF⟩ := hrel
      by_cases hlt : k < l.length
      · obtain ⟨g, o, rfl, hg, hcl⟩ := cells_str HA.out (List.getElem?_eq_getElem hlt)
        have hcell := hcl
        by_cases hbig : 600 < (l[k]).length
        · have hbig' : (600 : Int) < ((l[k]).length : Int) := by omega
          have HE2 : Hid (fewL l = false) := hide (by
            rw [HE.out, Bool.and_eq_false_iff]
            right
            rw [List.all_eq_false]
            exact ⟨l[k], List.getElem_mem _, by simpa using hbig⟩)
          generalize l[k] = x at *
          clear hcl HF
          go_wp2_with fail
          go_ret
          exact ⟨ret_bool HE2.out.symm, rfl⟩
        · have hbig' : ¬ (600 : Int) < ((l[k]).length : Int) := by omega
          have HF2 : Hid (∀ j (h : j < l.length), j < k + 1 → (l[j]).length ≤ 600) := hide (fun j h h2 => by
            rcases Nat.lt_or_ge j k with h3 | h3
            · exact HF.out j h h3
            · obtain rfl : j = k := by omega
              omega)
          generalize l[k] = x at *
          clear hcl HF hbig
          go_wp2_with fail
          go_round
          case rel => exact ⟨k + 1, by omega, by go_num, HF2⟩
          case measure => simp [intOf]; omega
      · have HE2 : Hid (fewL l = true) := hide (by
          rw [HE.out, Bool.and_eq_true]
          refine ⟨by simpa using h60, ?_⟩
          rw [List.all_eq_true]
          intro x hx
          obtain ⟨j, hj, rfl⟩ := List.getElem_of_mem hx
          simpa using HF.out j hj (by omega))
        clear HF
        go_wp2_with fail
        go_ret
        exact ⟨by rw [HE2.out]; simp; omega, rfl⟩
  · have HE2 : Hid (fewL l = false) := hide (by rw [HE.out]; simp [h60])
    go_enter Tryz.func4, Tryz.ntmps4
    go_wp2_with fail
    go_loop [3] (fun u3 => u3 = .int .i64 0) (fun _ => 0)
    case atStart => rfl
    case round =>
      obtain rfl := hrel
      have hpos : (0 : Int) < (l.length : Int) := by omega
      go_wp2_with fail
      go_ret
      exact ⟨by rw [HE2.out]; simp; omega, rfl⟩
theorem few_of {l : List LB} (h : fewL l = true) : l.length ≤ 60 ∧ ∀ s ∈ l, s.length ≤ 600 := by
  unfold fewL at h
  rw [Bool.and_eq_true, decide_eq_true_eq, List.all_eq_true] at h
  exact ⟨h.1, fun s hs => by simpa using h.2 s hs⟩
theorem set_size (l : List LB) (n v : LB) : (setP l n v).1.length ≤ l.length + 1 := by
  unfold setP
  split
  · rename_i h
    rw [Bool.and_eq_true] at h
    obtain ⟨h1, h2, h3, h4, h5⟩ := pairs_of h.1
    split
    · show l.length ≤ _; omega
    · show ((insS (pairsOf l) (n, v)).map textS).length ≤ _
      rw [List.length_map, ins_length h2]
      have := notK_le n (pairsOf l)
      show (notK n (pairsOf l)).length + 1 ≤ _
      omega
  · show l.length ≤ _; omega
theorem uns_size (l : List LB) (n : LB) : (unsE l n).length ≤ l.length := by
  unfold unsE
  split
  · rename_i h
    obtain ⟨h1, h2, h3, h4, h5⟩ := pairs_of h
    rw [List.length_map]
    have := notK_le n (pairsOf l)
    omega
  · omega
set_option maxRecDepth 100000 in
set_option maxHeartbeats 16000000 in
theorem tells_any (l : List LB) (A : Option Addr) (n c : Nat) (nm vl : LB) (w : World) (hR : Reads w w.heap.size 1 A n (svs l)) (hnc : n ≤ c) :
    Calls Tryz.prog 3 #[.slice A n c, .string ⟨nm.toArray⟩, .string ⟨vl.toArray⟩] w fun e w' => e = .returned (.bool true) ∧ Below w.heap.size w w' := by
  obtain ⟨i0, hi0, hz0, hz1, hz2⟩ := info_parts infoStr
  have XH := hide (fun W => heads_any W)
  have K := hide (Below.refl w.heap.size w)
  have hl := rd_len hR
  have XFW := hide (few_any l A n c w hR)
  have HR := hide hR
  have HL := hide hl
  obtain ⟨fw, hfw⟩ : ∃ b, fewL l = b := ⟨_, rfl⟩
  rw [hfw] at XFW
  have HFW := hide hfw
  clear hfw hR hl
  cases fw with
  | false =>
    go_enter Tryz.func3, Tryz.ntmps3
    go_wp2_with fail
    with_reducible refine XFW.out.mono ?_
    rintro e w1 ⟨rfl, hw1⟩
    subst hw1
    go_wp2_with fail
    with_reducible refine (XH.out _).mono ?_
    rintro e w9 ⟨rfl, hb⟩
    replace K := hide (below_more K.out (Nat.le_refl _) hb)
    clear hb
    go_wp2_with fail
    go_ret
    exact ⟨rfl, K.out⟩
  | true =>
    obtain ⟨hl60, hs⟩ := few_of HFW.out
    have hn : n ≤ 60 := by have := HL.out; omega
    have HS := hide hs
    clear hs hl60
    by_cases z1 : nm.length ≤ 600
    · have y1 : ¬ (600 : Int) < (nm.length : Int) := by omega
      by_cases z2 : vl.length ≤ 600
      · have y2 : ¬ (600 : Int) < (vl.length : Int) := by omega
        have hown0 : (w.alloc (.cells #[] 9)).ownsRow w.heap.size 9 1 (.slice (some ⟨w.heap.size, 0, none⟩) 0 0) 0 [] := by
          refine ⟨rfl, .inr ⟨w.heap.size, 0, #[], rfl, Nat.le_refl _, ?_⟩⟩
          exact ⟨Blk.new w 9 #[], Nat.le_refl _, by simp [maxLen], by simp, by simp⟩
        have hrt := HR.out.alloc (Nat.le_refl _) (.cells #[] 9)
        have H6 : ∀ s ∈ l, s.length ≤ 1000000 := fun s h => by have := HS.out s h; omega
        have H5 : ∀ s ∈ l, s.length ≤ 100000 := fun s h => by have := HS.out s h; omega
        have XG := hide (fun A' c' W (h : Reads W W.heap.size 1 A' n (svs l)) => eget_any l H6 nm A' n c' W h (by omega))
        have XRG := hide (fun A' c' W (h : Reads W W.heap.size 1 A' n (svs l)) => rget_any l H6 nm A' n c' W h (by omega))
        have XS := hide (fun A' c' W (h : Reads W W.heap.size 1 A' n (svs l)) => set_any l H5 nm vl (by omega) (by omega) A' n c' W h (by omega))
        have XRS := hide (fun A' c' W (h : Reads W W.heap.size 1 A' n (svs l)) (h2 : n ≤ c') => rset_any l H5 nm vl (by omega) (by omega) A' n c' W h (by omega) h2)
        have XO := hide (fun A' c' W (h : Reads W W.heap.size 1 A' n (svs l)) => of_any l H6 A' n c' W h (by omega))
        have XRO := hide (fun A' c' W (h : Reads W W.heap.size 1 A' n (svs l)) => rof_any l H6 A' n c' W h (by omega))
        have XU := hide (fun A' c' W (h : Reads W W.heap.size 1 A' n (svs l)) => unset_any l H5 nm A' n c' W h (by omega))
        have XRU := hide (fun A' c' W (h : Reads W W.heap.size 1 A' n (svs l)) => runset_any l H5 nm A' n c' W h (by omega))
        have XK := hide (fun A' c' W (h : Reads W W.heap.size 1 A' n (svs l)) => echeck_any l H6 A' n c' W h (by omega))
        have XRK := hide (fun A' c' W (h : Reads W W.heap.size 1 A' n (svs l)) => rechk_any l H6 A' n c' W h (by omega))
        have XNM := hide (fun W => ename_any nm W (by omega))
        have XRNM := hide (fun W => rename_any nm W)
        have hs1 : (setP l nm vl).1.length ≤ 100 := by have := set_size l nm vl; have := HL.out; omega
        have hs2 : (unsE l nm).length ≤ 100 := by have := uns_size l nm; have := HL.out; omega
        have hs3 : (ofP l).length ≤ 32 := by unfold ofP; rw [List.length_map, List.length_take]; omega
        clear H5 H6
        obtain ⟨r, hr⟩ : ∃ r, setP l nm vl = r := ⟨_, rfl⟩
        rw [hr] at XS XRS hs1
        obtain ⟨m, e0⟩ := r
        dsimp only at XS XRS hs1
        clear hr
        generalize unsE l nm = u at *
        generalize ofP l = ov at *
        generalize envChk l = ck at *
        generalize nameP nm = kn at *
        obtain ⟨go, hgo⟩ : ∃ g, (getE l nm).getD [] = g := ⟨_, rfl⟩
        obtain ⟨gk, hgk⟩ : ∃ g, (getE l nm).isSome = g := ⟨_, rfl⟩
        rw [hgo, hgk] at XG XRG
        clear hgo hgk
        obtain ⟨q, hq⟩ : ∃ q, ov.length = q := ⟨_, rfl⟩
        rw [hq] at XO XRO hs3
        clear hq
        obtain ⟨E, hE⟩ : ∃ E : Int, (e0 : Int) = E := ⟨_, rfl⟩
        rw [hE] at XS XRS
        clear hE
        have XM1 := hide (fun A' B' n' m' c' d' W (h : Reads W W.heap.size 1 A' n' (svs m)) (h2 : Reads W W.heap.size 1 B' m' (svs m)) (hn : n' ≤ 1000000) => texts_eq m A' B' n' c' m' d' W h h2 hn)
        have XM2 := hide (fun A' B' n' m' c' d' W (h : Reads W W.heap.size 1 A' n' (svs ov)) (h2 : Reads W W.heap.size 1 B' m' (svs ov)) (hn : n' ≤ 1000000) => texts_eq ov A' B' n' c' m' d' W h h2 hn)
        have XM3 := hide (fun A' B' n' m' c' d' W (h : Reads W W.heap.size 1 A' n' (svs u)) (h2 : Reads W W.heap.size 1 B' m' (svs u)) (hn : n' ≤ 1000000) => texts_eq u A' B' n' c' m' d' W h h2 hn)
        have XM4 := hide (fun A' B' n' m' c' d' W (h : Reads W W.heap.size 1 A' n' (svs l)) (h2 : Reads W W.heap.size 1 B' m' (svs l)) (hn : n' ≤ 1000000) => texts_eq l A' B' n' c' m' d' W h h2 hn)
        have e1 : (go == go) = true := by simp
        have e2 : (gk == gk) = true := by simp
        have e3 : (E == E) = true := by simp
        have e4 : (ck == ck) = true := by simp
        have e5 : (kn == kn) = true := by simp
        go_enter Tryz.func3, Tryz.ntmps3
        go_wp2_with fail
        with_reducible refine XFW.out.mono ?_
        rintro e w1 ⟨rfl, hw1⟩
        subst hw1
        go_wp2_with (at_builtin; (refine wpList_append_any _ rfl (.tmp 30) (.tmp 31) 22 rfl w.heap.size 9 i0 _ 1 16 Tryz.underlying22 hi0 hz0 hz1 hz2 rfl (by omega) (.slice (some ⟨w.heap.size, 0, none⟩) 0 0) 0 [] rfl hown0 _ A n c (svs l) rfl hrt (svs_one _) ?c1 ?c2 (by simp) ?_))
        case c1 => unfold maxLen; omega
        case c2 => omega
        intro v3 w3 hown3 hg3 hat3
        obtain ⟨A3, c3, rfl⟩ := own_slice hown3
        have HO3 : Hid (Ow w.heap.size w3 A3 n c3 l) := hide (by unfold Ow; simpa using hown3)
        have HN := hide HO3.out.rd
        replace K : Hid (Below w.heap.size w w3) := hide (((Below.refl _ _).alloc (Nat.le_refl _) _).grown hg3 (by simp) (fun g hg => by simp [Value.ownBlock] at hg; omega))
        have HV := hide ((HR.out.below K.out).more K.out.size)
        clear hown0 hrt hown3 hg3 hat3 HO3
        try simp only [Nat.zero_add]
        go_wp2_with fail
        with_reducible refine (XG.out _ _ _ HN.out).mono ?_
        rintro e w4 ⟨rfl, hb⟩
        replace K := hide (below_more K.out (Nat.le_refl _) hb)
        replace HV := hide (rb HV.out hb)
        replace HN := hide (rb HN.out hb)
        clear hb
        go_wp2_with fail
        with_reducible refine (XRG.out _ _ _ HV.out).mono ?_
        rintro e w4 ⟨rfl, hb⟩
        replace K := hide (below_more K.out (Nat.le_refl _) hb)
        replace HV := hide (rb HV.out hb)
        replace HN := hide (rb HN.out hb)
        clear hb
        go_wp2_with fail
        with_reducible refine (XS.out _ _ _ HN.out).mono ?_
        rintro e w4 ⟨AS, nS, cS, rfl, hO, hb⟩
        replace K := hide (below_more K.out (Nat.le_refl _) hb)
        replace HV := hide (rb HV.out hb)
        replace HN := hide (rb HN.out hb)
        have H1 := hide hO.rd
        clear hO
        have hnS : nS ≤ 1000 := by have h5 := H1.out.1; rw [svs_length] at h5; omega
        clear hb
        go_wp2_with fail
        with_reducible refine (XRS.out _ _ _ HV.out hnc).mono ?_
        rintro e w4 ⟨AT, nT, cT, rfl, hO, hb⟩
        replace K := hide (below_more K.out (Nat.le_refl _) hb)
        replace HV := hide (rb HV.out hb)
        replace HN := hide (rb HN.out hb)
        replace H1 := hide (rb H1.out hb)
        have H2 := hide hO
        clear hO
        clear hb
        go_wp2_with fail
        with_reducible refine (XM1.out _ _ _ _ _ _ _ H1.out H2.out (by omega)).mono ?_
        rintro e w4 ⟨rfl, hb⟩
        replace K := hide (below_more K.out (Nat.le_refl _) hb)
        replace HV := hide (rb HV.out hb)
        replace HN := hide (rb HN.out hb)
        clear hb
        go_wp2_with fail
        with_reducible refine (XO.out _ _ _ HN.out).mono ?_
        rintro e w4 ⟨AO, cO, rfl, hO, hb⟩
        replace K := hide (below_more K.out (Nat.le_refl _) hb)
        replace HV := hide (rb HV.out hb)
        replace HN := hide (rb HN.out hb)
        have H3 := hide hO.rd
        clear hO
        clear hb
        go_wp2_with fail
        with_reducible refine (XRO.out _ _ _ HV.out).mono ?_
        rintro e w4 ⟨AP, cP, rfl, hO, hb⟩
        replace K := hide (below_more K.out (Nat.le_refl _) hb)
        replace HV := hide (rb HV.out hb)
        replace HN := hide (rb HN.out hb)
        replace H3 := hide (rb H3.out hb)
        have H4 := hide hO
        clear hO
        clear hb
        go_wp2_with fail
        with_reducible refine (XM2.out _ _ _ _ _ _ _ H3.out H4.out (by omega)).mono ?_
        rintro e w4 ⟨rfl, hb⟩
        replace K := hide (below_more K.out (Nat.le_refl _) hb)
        replace HV := hide (rb HV.out hb)
        replace HN := hide (rb HN.out hb)
        clear hb
        go_wp2_with fail
        with_reducible refine (XU.out _ _ _ HN.out).mono ?_
        rintro e w4 ⟨AU, nU, cU, rfl, hO, hb⟩
        replace K := hide (below_more K.out (Nat.le_refl _) hb)
        replace HV := hide (rb HV.out hb)
        replace HN := hide (rb HN.out hb)
        have H5 := hide hO.rd
        clear hO
        have hnU : nU ≤ 1000 := by have h5 := H5.out.1; rw [svs_length] at h5; omega
        clear hb
        go_wp2_with fail
        with_reducible refine (XRU.out _ _ _ HV.out).mono ?_
        rintro e w4 ⟨AW, nW, cW, rfl, hO, hb⟩
        replace K := hide (below_more K.out (Nat.le_refl _) hb)
        replace HV := hide (rb HV.out hb)
        replace HN := hide (rb HN.out hb)
        replace H5 := hide (rb H5.out hb)
        have H6 := hide hO
        clear hO
        clear hb
        go_wp2_with fail
        with_reducible refine (XM3.out _ _ _ _ _ _ _ H5.out H6.out (by omega)).mono ?_
        rintro e w4 ⟨rfl, hb⟩
        replace K := hide (below_more K.out (Nat.le_refl _) hb)
        replace HV := hide (rb HV.out hb)
        replace HN := hide (rb HN.out hb)
        clear hb
        go_wp2_with fail
        with_reducible refine (XK.out _ _ _ HN.out).mono ?_
        rintro e w4 ⟨rfl, hb⟩
        replace K := hide (below_more K.out (Nat.le_refl _) hb)
        replace HV := hide (rb HV.out hb)
        replace HN := hide (rb HN.out hb)
        clear hb
        go_wp2_with fail
        with_reducible refine (XRK.out _ _ _ HV.out).mono ?_
        rintro e w4 ⟨rfl, hb⟩
        replace K := hide (below_more K.out (Nat.le_refl _) hb)
        replace HV := hide (rb HV.out hb)
        replace HN := hide (rb HN.out hb)
        clear hb
        go_wp2_with fail
        with_reducible refine (XNM.out _).mono ?_
        rintro e w4 ⟨rfl, rfl⟩
        go_wp2_with fail
        with_reducible refine (XRNM.out _).mono ?_
        rintro e w4 ⟨rfl, rfl⟩
        go_wp2_with fail
        with_reducible refine (XM4.out _ _ _ _ _ _ _ HN.out HV.out (by omega)).mono ?_
        rintro e w4 ⟨rfl, hb⟩
        replace K := hide (below_more K.out (Nat.le_refl _) hb)
        clear hb
        go_wp2_with fail
        with_reducible refine (XH.out _).mono ?_
        rintro e w9 ⟨rfl, hb⟩
        replace K := hide (below_more K.out (Nat.le_refl _) hb)
        clear hb
        go_wp2_with fail
        go_ret
        exact ⟨rfl, K.out⟩
      · have y2 : (600 : Int) < (vl.length : Int) := by omega
        go_enter Tryz.func3, Tryz.ntmps3
        go_wp2_with fail
        with_reducible refine XFW.out.mono ?_
        rintro e w1 ⟨rfl, hw1⟩
        subst hw1
        go_wp2_with fail
        with_reducible refine (XH.out _).mono ?_
        rintro e w9 ⟨rfl, hb⟩
        replace K := hide (below_more K.out (Nat.le_refl _) hb)
        clear hb
        go_wp2_with fail
        go_ret
        exact ⟨rfl, K.out⟩
    · have y1 : (600 : Int) < (nm.length : Int) := by omega
      go_enter Tryz.func3, Tryz.ntmps3
      go_wp2_with fail
      with_reducible refine XFW.out.mono ?_
      rintro e w1 ⟨rfl, hw1⟩
      subst hw1
      go_wp2_with fail
      with_reducible refine (XH.out _).mono ?_
      rintro e w9 ⟨rfl, hb⟩
      replace K := hide (below_more K.out (Nat.le_refl _) hb)
      clear hb
      go_wp2_with fail
      go_ret
      exact ⟨rfl, K.out⟩
theorem tells_b (A0 : Option Addr) (n0 c0 : Nat) (k0 : List LB) (a1 a2 : ByteArray) (W : World) (w0 : Reads W W.heap.size 1 A0 n0 (svs k0)) (l0 : n0 ≤ c0) : Calls Tryz.prog 3 #[.slice A0 n0 c0, .string a1, .string a2] W fun e w' => e = .returned (.bool true) ∧ Below W.heap.size W w' := by
  obtain ⟨s1, rfl⟩ := bs_of a1
  obtain ⟨s2, rfl⟩ := bs_of a2
  exact tells_any k0 A0 n0 c0 s1 s2 W w0 l0
end Go.Proofs.YtaibmfahfkoahaaGreat
