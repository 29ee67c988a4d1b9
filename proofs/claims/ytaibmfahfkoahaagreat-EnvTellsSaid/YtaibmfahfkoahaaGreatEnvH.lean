/- The document's Cut, Check and Get on settings (layer 11). -/
import Derived.Test.YtaibmfahfkoahaaGreatEnvG
namespace Go.Proofs.YtaibmfahfkoahaaGreat
open Go.RowKit
set_option linter.unusedVariables false
def rcutV (s : LB) : Value := .tuple #[.string ⟨((parseP s).getD ([], [])).1.toArray⟩, .string ⟨((parseP s).getD ([], [])).2.toArray⟩, .bool (parseP s).isSome]
theorem rcut_no {s : LB} (h : settingP s = false) : rcutV s = .tuple #[.string ⟨#[]⟩, .string ⟨#[]⟩, .bool false] := by unfold rcutV parseP; rw [h]; rfl
theorem rcut_yes {s : LB} (h : settingP s = true) : rcutV s = .tuple #[.string ⟨(s.take (posE s)).toArray⟩, .string ⟨(s.drop (posE s + 1)).toArray⟩, .bool true] := by unfold rcutV parseP; rw [h]; rfl
theorem posE_of {s : LB} {i : Nat} (h1 : ∀ c ∈ s.take i, c ≠ 61) (hi : i ≤ s.length) (h2 : i = s.length ∨ s[i]? = some 61) : posE s = i := by
  induction s generalizing i with
  | nil => simp at hi; subst hi; rfl
  | cons a r ih =>
    rw [posE]
    cases i with
    | zero =>
      rcases h2 with h2 | h2
      · simp at h2
      · have : a = 61 := by simpa using h2
        rw [if_pos this]
    | succ i =>
      rw [if_neg (h1 a (by simp)), ih (fun c hc => h1 c (by rw [List.take_succ_cons]; exact List.mem_cons_of_mem _ hc)) (by simpa using hi) (by simpa using h2)]
set_option maxRecDepth 100000 in
set_option maxHeartbeats 8000000 in
theorem rcut_any (s : LB) (w : World) (hs : s.length ≤ 1000000000) : Calls Tryz.prog 22 #[.string ⟨s.toArray⟩] w fun e w' => e = .returned (rcutV s) ∧ Below w.heap.size w w' := by
  obtain ⟨R, hR⟩ : ∃ R, rcutV s = R := ⟨_, rfl⟩
  rw [hR]
  have NO : Hid (settingP s = false → R = .tuple #[.string ⟨#[]⟩, .string ⟨#[]⟩, .bool false]) := hide (fun h => hR.symm.trans (rcut_no h))
  have YES : Hid (settingP s = true → R = .tuple #[.string ⟨(s.take (posE s)).toArray⟩, .string ⟨(s.drop (posE s + 1)).toArray⟩, .bool true]) := hide (fun h => hR.symm.trans (rcut_yes h))
  have HSP : Hid (settingP s = (decide (posE s < s.length) && (nameP (s.take (posE s)) && (decide (s.length ≤ 256) && noZero s)))) := hide rfl
  clear hR
  go_enter Tryz.func22, Tryz.ntmps22
  go_wp2_with fail
  go_loop [5] (fun u5 => ∃ i : Nat, i ≤ s.length ∧ u5 = .int .i64 (i : Int) ∧ Hid (∀ c ∈ s.take i, c ≠ 61)) (fun u5 => s.length - (intOf u5).toNat)
  case atStart => exact ⟨0, Nat.zero_le _, rfl, hide (fun c hc => by simp at hc)⟩
  case round =>
    obtain ⟨i, hi, rfl, HF⟩ := hrel
    by_cases hgo : i < s.length ∧ s[i]? ≠ some 61
    · obtain ⟨hlt, hne⟩ := hgo
      obtain ⟨c, hc⟩ : ∃ c, s[i]? = some c := ⟨_, List.getElem?_eq_getElem hlt⟩
      have hix := ix_l s i c hc
      have hlt' : (i : Int) < (s.length : Int) := by omega
      have hc61 : c ≠ 61 := fun e => hne (by rw [hc, e])
      have k1 : ((c.toNat : Int) == 61) = false := beq_eq_false_iff_ne.2 (fun e => hc61 (UInt8.toNat_inj.1 (by show c.toNat = 61; omega)))
      have k2 : ((c.toNat : Int) != 61) = true := by rw [bne, k1]; rfl
      have HF2 : Hid (∀ x ∈ s.take (i + 1), x ≠ 61) := hide (fun x hx => by
        obtain ⟨g1, g2⟩ := List.getElem?_eq_some_iff.1 hc
        rw [List.take_succ_eq_append_getElem g1, g2, List.mem_append, List.mem_singleton] at hx
        rcases hx with hx | rfl
        · exact HF.out x hx
        · exact hc61)
      clear hc hne hc61 HF
      go_wp2_with fail
      go_round
      case rel => exact ⟨i + 1, by omega, by go_num, HF2⟩
      case measure => simp [intOf]; omega
    · have HP : Hid (posE s = i) := hide (posE_of HF.out hi (by
        by_cases h : i < s.length
        · exact .inr (by
            by_cases h2 : s[i]? = some 61
            · exact h2
            · exact absurd ⟨h, h2⟩ hgo)
        · exact .inl (by omega)))
      by_cases hlt : i < s.length
      · have h61 : s[i]? = some 61 := by
          by_cases h2 : s[i]? = some 61
          · exact h2
          · exact absurd ⟨hlt, h2⟩ hgo
        have hix : ∀ W, (Instr.index 9 (.string ⟨s.toArray⟩) (.int .i64 (i : Int))).run Tryz.prog W = .ok (.int .u8 61) W := fun W => ix_l s i 61 h61 W
        have hlt' : (i : Int) < (s.length : Int) := by omega
        have HS2 : Hid (settingP s = (nameP (s.take i) && (decide (s.length ≤ 256) && noZero s))) := hide (by rw [HSP.out, HP.out, decide_eq_true hlt, Bool.true_and])
        rw [HP.out] at YES
        have kne : ((i : Int) == (s.length : Int)) = false := beq_eq_false_iff_ne.2 (by omega)
        clear HSP HF hgo h61
        by_cases h256 : s.length ≤ 256
        · have k256 : ¬ (256 : Int) < (s.length : Int) := by omega
          have XN := hide (fun W => rename_any (s.take i) W)
          have hsl1 := fun W => sl_to s i (i : Int) rfl hi W
          have hsl2 : ∀ W, (Instr.slice 9 (.string ⟨s.toArray⟩) (some (.int .i64 ((i : Int) + 1))) none none).run Tryz.prog W = .ok (.string ⟨(s.drop (i + 1)).toArray⟩) W := fun W => by
            have := sl_from s (i + 1) (by omega) W
            rwa [show ((i + 1 : Nat) : Int) = (i : Int) + 1 by omega] at this
          have kw : IntKind.i64.wrap ((i : Int) + 1) = (i : Int) + 1 := by simp [IntKind.wrap, IntKind.bits, IntKind.signed]; omega
          generalize s.take i = nm at *
          generalize s.drop (i + 1) = vl at *
          obtain ⟨q, hq⟩ : ∃ q, nameP nm = q := ⟨_, rfl⟩
          rw [hq] at XN HS2
          clear hq
          cases q with
          | false =>
            have HE := hide (NO.out (by rw [HS2.out]; rfl))
            clear NO YES HS2
            go_wp2_with fail
            refine (XN.out _).mono ?_
            rintro e w1 ⟨rfl, rfl⟩
            go_wp2_with fail
            refine bodyPost_ret (v := .tuple #[.string ⟨#[]⟩, .string ⟨#[]⟩, .bool false]) (by simp only [results, Tryz.results22]; go_simp) rfl ⟨by rw [HE.out], Below.refl _ _⟩
          | true =>
            have HS3 : Hid (settingP s = noZero s) := hide (by rw [HS2.out, decide_eq_true h256]; simp)
            clear HS2
            go_wp2_with fail
            refine (XN.out _).mono ?_
            rintro e w1 ⟨rfl, rfl⟩
            clear XN
            go_wp2_with fail
            go_loopw [6] (fun u6 wx => ∃ j : Nat, j ≤ s.length ∧ u6 = .int .i64 (j : Int) ∧ Hid (∀ c ∈ s.take j, c ≠ 0) ∧ Hid (w = wx)) (fun u6 _ => s.length - (intOf u6).toNat)
            case atStart => exact ⟨0, Nat.zero_le _, rfl, hide (fun c hc => by simp at hc), by first | exact hide rfl | exact hide trivial⟩
            case round =>
              obtain ⟨j, hj, rfl, HZ, HW⟩ := hrel
              obtain rfl := HW.out
              by_cases hjl : j < s.length
              · obtain ⟨c, hc⟩ : ∃ c, s[j]? = some c := ⟨_, List.getElem?_eq_getElem hjl⟩
                have hixj := ix_l s j c hc
                have hjl' : (j : Int) < (s.length : Int) := by omega
                have HC := hide hc
                clear hc
                by_cases hc0 : c.toNat = 0
                · have k0 : ((c.toNat : Int) == 0) = true := by rw [beq_iff_eq]; omega
                  have HE := hide (NO.out (by
                    rw [HS3.out, ← Bool.not_eq_true, noZero_iff]
                    intro h
                    exact h c (List.mem_of_getElem? HC.out) (UInt8.toNat_inj.1 hc0)))
                  clear NO YES HS3 hc0
                  go_wp2_with fail
                  refine bodyPost_ret (v := .tuple #[.string ⟨#[]⟩, .string ⟨#[]⟩, .bool false]) (by simp only [results, Tryz.results22]; go_simp) rfl ⟨by rw [HE.out], Below.refl _ _⟩
                · have k0 : ((c.toNat : Int) == 0) = false := beq_eq_false_iff_ne.2 (by omega)
                  have HZ2 : Hid (∀ x ∈ s.take (j + 1), x ≠ 0) := hide (fun x hx => by
                    obtain ⟨g1, g2⟩ := List.getElem?_eq_some_iff.1 HC.out
                    rw [List.take_succ_eq_append_getElem g1, g2, List.mem_append, List.mem_singleton] at hx
                    rcases hx with hx | rfl
                    · exact HZ.out x hx
                    · rintro rfl; exact hc0 rfl)
                  clear hc0
                  go_wp2_with fail
                  go_roundw
                  case rel => exact ⟨j + 1, by omega, by go_num, HZ2, by first | exact hide rfl | exact hide trivial⟩
                  case measure => simp [intOf]; omega
              · have hjl' : ¬ (j : Int) < (s.length : Int) := by omega
                have HE := hide (YES.out (by
                  rw [HS3.out, noZero_iff]
                  have := HZ.out
                  rwa [List.take_of_length_le (by omega)] at this))
                clear NO YES HS3 HZ
                go_wp2_with fail
                go_quiet (fail)
                go_wp2_with fail
                refine bodyPost_ret (v := .tuple #[.string ⟨nm.toArray⟩, .string ⟨vl.toArray⟩, .bool true]) (by simp only [results, Tryz.results22]; go_simp) rfl ⟨by rw [HE.out], below_drewN (Below.refl _ _) _⟩
        · have k256 : (256 : Int) < (s.length : Int) := by omega
          have HE := hide (NO.out (by rw [HS2.out, decide_eq_false h256]; simp))
          clear NO YES HS2
          go_wp2_with fail
          refine bodyPost_ret (v := .tuple #[.string ⟨#[]⟩, .string ⟨#[]⟩, .bool false]) (by simp only [results, Tryz.results22]; go_simp) rfl ⟨by rw [HE.out], Below.refl _ _⟩
      · have hlt' : ¬ (i : Int) < (s.length : Int) := by omega
        have keq : ((i : Int) == (s.length : Int)) = true := by rw [beq_iff_eq]; omega
        have HE := hide (NO.out (by rw [HSP.out, HP.out, decide_eq_false hlt]; rfl))
        clear NO YES HSP HF hgo
        go_wp2_with fail
        refine bodyPost_ret (v := .tuple #[.string ⟨#[]⟩, .string ⟨#[]⟩, .bool false]) (by simp only [results, Tryz.results22]; go_simp) rfl ⟨by rw [HE.out], Below.refl _ _⟩
set_option maxRecDepth 100000 in
set_option maxHeartbeats 8000000 in
theorem rechk_any (l : List LB) (hs : ∀ s ∈ l, s.length ≤ 1000000) (A : Option Addr) (n c : Nat) (w : World) (hR : Reads w w.heap.size 1 A n (svs l)) (hn : n ≤ 1000000) : Calls Tryz.prog 16 #[.slice A n c] w fun e w' => e = .returned (.bool (envChk l)) ∧ Below w.heap.size w w' := by
  have hl : l.length = n := by have := hR.1; rw [svs_length] at this; omega
  have HR := hide hR
  have HL := hide hl
  have HS := hide hs
  obtain ⟨R, hRE⟩ : ∃ R, envChk l = R := ⟨_, rfl⟩
  have HRE := hide hRE
  rw [hRE]
  clear hR hl hs hRE
  go_enter Tryz.func16, Tryz.ntmps16
  go_wp2_with fail
  go_loopw [3, 4, 5, 6, 7] (fun u3 u4 _ _ _ wx => ∃ i : Nat, i ≤ n ∧ u4 = .int .i64 (i : Int) ∧ u3 = .string ⟨(if i = 0 then [] else keyE l (i - 1)).toArray⟩ ∧ Hid (Below w.heap.size w wx) ∧ Hid (∀ j, j < i → okE l j = true)) (fun _ u4 _ _ _ _ => n - (intOf u4).toNat)
  case atStart => exact ⟨0, Nat.zero_le _, rfl, rfl, hide (Below.refl _ _), hide (fun j h => by omega)⟩
  case round =>
    obtain ⟨i, hi, rfl, rfl, HW, HF⟩ := hrel
    obtain ⟨bf, hbf⟩ : ∃ b, (if i = 0 then [] else keyE l (i - 1)) = b := ⟨_, rfl⟩
    rw [hbf]
    have HBF := hide hbf
    clear hbf
    by_cases hlt : i < n
    · obtain ⟨s, hsx⟩ : ∃ s, l[i]? = some s := ⟨_, List.getElem?_eq_getElem (by have := HL.out; omega)⟩
      have hsl := HS.out s (List.mem_of_getElem? hsx)
      obtain ⟨g, o, rfl, hg, hcell⟩ := cells_str (HR.out.below HW.out) hsx
      have hia := fun W => str_at g o n c i (i : Int) rfl hlt W
      have hlt' : (i : Int) < (n : Int) := by omega
      have XC := hide (fun W => rcut_any s W (by omega))
      have HPA : Hid (pairAt l i = parseP s) := hide (by unfold pairAt; rw [hsx]; rfl)
      have HOK : Hid (okE l i = ((parseP s).isSome && (decide (i = 0) || Op.bytesLess (keyE l (i - 1)) ((parseP s).getD ([], [])).1))) := hide (by unfold okE; rw [HPA.out, show keyE l i = ((parseP s).getD ([], [])).1 by unfold keyE; rw [HPA.out]])
      have NO : Hid (okE l i = false → R = false) := hide (fun h => HRE.out.symm.trans (envChk_no (by have := HL.out; omega) h))
      have YES : Hid (okE l i = true → ∀ j, j < i + 1 → okE l j = true) := hide (fun h j hj => by
        rcases Nat.lt_or_ge j i with h1 | h1
        · exact HF.out j h1
        · obtain rfl : j = i := by omega
          exact h)
      have HKE : Hid (keyE l i = ((parseP s).getD ([], [])).1) := hide (by unfold keyE; rw [HPA.out])
      unfold rcutV at XC
      clear hsx HF HPA
      obtain ⟨q, hq⟩ : ∃ q, parseP s = q := ⟨_, rfl⟩
      rw [hq] at XC HOK HKE
      clear hq
      cases q with
      | none =>
        have HE := hide (NO.out (by rw [HOK.out]; rfl))
        dsimp only [Option.getD, Option.isSome] at XC
        clear NO YES HOK HKE
        go_wp2_with fail
        refine (XC.out _).mono ?_
        rintro e w1 ⟨rfl, hb⟩
        have HW2 := hide (below_more HW.out (Nat.le_refl _) hb)
        clear hb
        go_wp2_with fail
        go_ret
        exact ⟨ret_bool HE.out.symm, HW2.out⟩
      | some p =>
        obtain ⟨pn, pv⟩ := p
        dsimp only [Option.getD, Option.isSome] at XC HOK HKE
        by_cases h0 : 0 < i
        · have k0 : (0 : Int) < (i : Int) := by omega
          have HBF2 : Hid (keyE l (i - 1) = bf) := hide (by have := HBF.out; rwa [if_neg (by omega)] at this)
          have hle : (Op.bytesLess pn bf || pn == bf) = !(Op.bytesLess bf pn) := by
            rw [bytesLess_eq, bytesLess_eq]
            rcases blt_tri pn bf with h | h | h
            · rw [decide_eq_true h, decide_eq_false (blt_asymm h)]; rfl
            · subst h; rw [decide_eq_false (blt_irrefl pn)]; simp
            · rw [decide_eq_true h, decide_eq_false (blt_asymm h), beq_eq_false_iff_ne.2 (blt_ne h).symm]; rfl
          obtain ⟨ord, hord⟩ : ∃ ord, Op.bytesLess bf pn = ord := ⟨_, rfl⟩
          rw [hord] at hle
          have HO2 : Hid (okE l i = ord) := hide (by rw [HOK.out, HBF2.out, hord, decide_eq_false (by omega : ¬ i = 0)]; simp)
          clear hord HOK HBF
          cases ord with
          | false =>
            have HE := hide (NO.out HO2.out)
            clear NO YES HO2 HKE
            go_wp2_with fail
            refine (XC.out _).mono ?_
            rintro e w1 ⟨rfl, hb⟩
            have HW2 := hide (below_more HW.out (Nat.le_refl _) hb)
            clear hb
            go_wp2_with fail
            go_ret
            exact ⟨ret_bool HE.out.symm, HW2.out⟩
          | true =>
            have HF2 := hide (YES.out HO2.out)
            clear NO YES HO2
            go_wp2_with fail
            refine (XC.out _).mono ?_
            rintro e w1 ⟨rfl, hb⟩
            have HW2 := hide (below_more HW.out (Nat.le_refl _) hb)
            clear hb
            go_wp2_with fail
            go_roundw
            case rel => exact ⟨i + 1, by omega, by go_num, by rw [if_neg (by omega), Nat.add_sub_cancel, HKE.out], HW2, HF2⟩
            case measure => simp [intOf]; omega
        · have k0 : ¬ (0 : Int) < (i : Int) := by omega
          have HF2 := hide (YES.out (by rw [HOK.out, decide_eq_true (by omega : i = 0)]; rfl))
          clear NO YES HOK h0
          go_wp2_with fail
          refine (XC.out _).mono ?_
          rintro e w1 ⟨rfl, hb⟩
          have HW2 := hide (below_more HW.out (Nat.le_refl _) hb)
          clear hb
          go_wp2_with fail
          go_roundw
          case rel => exact ⟨i + 1, by omega, by go_num, by rw [if_neg (by omega), Nat.add_sub_cancel, HKE.out], HW2, HF2⟩
          case measure => simp [intOf]; omega
    · have hlt' : ¬ (i : Int) < (n : Int) := by omega
      obtain rfl : i = n := by omega
      have HE : Hid (R = decide (i ≤ 32)) := hide (by
        rw [← HRE.out]
        unfold envChk
        rw [List.all_eq_true.2 (fun j hj => HF.out j (by have := HL.out; have := List.mem_range.1 hj; omega)), Bool.and_true, HL.out])
      by_cases h32 : i ≤ 32
      · have k32 : (i : Int) ≤ 32 := by omega
        rw [decide_eq_true h32] at HE
        go_wp2_with fail
        go_ret
        exact ⟨ret_bool HE.out.symm, HW.out⟩
      · have k32 : ¬ (i : Int) ≤ 32 := by omega
        rw [decide_eq_false h32] at HE
        go_wp2_with fail
        go_ret
        exact ⟨ret_bool HE.out.symm, HW.out⟩
set_option maxRecDepth 100000 in
set_option maxHeartbeats 8000000 in
theorem rget_any (l : List LB) (hs : ∀ s ∈ l, s.length ≤ 1000000) (nm : LB) (A : Option Addr) (n c : Nat) (w : World) (hR : Reads w w.heap.size 1 A n (svs l)) (hn : n ≤ 1000000) : Calls Tryz.prog 7 #[.slice A n c, .string ⟨nm.toArray⟩] w fun e w' => e = .returned (.tuple #[.string ⟨((getE l nm).getD []).toArray⟩, .bool (getE l nm).isSome]) ∧ Below w.heap.size w w' := by
  have hl : l.length = n := by have := hR.1; rw [svs_length] at this; omega
  have XK := hide (rechk_any l hs A n c w hR hn)
  have HR := hide hR
  have HL := hide hl
  have HS := hide hs
  obtain ⟨R, hRE⟩ : ∃ R, getE l nm = R := ⟨_, rfl⟩
  have HRE : Hid (R = if envChk l = true then l.findSome? (hitE nm) else none) := hide (by rw [← hRE]; rfl)
  rw [hRE]
  have HALL := hide (fun (h : envChk l = true) (i : Nat) (s : LB) (hs : l[i]? = some s) => envChk_all h hs)
  clear hR hl hs hRE
  generalize envChk l = ck at *
  cases ck with
  | false =>
    obtain rfl : R = none := by rw [HRE.out]; rfl
    go_enter Tryz.func7, Tryz.ntmps7
    go_wp2_with fail
    refine XK.out.mono ?_
    rintro e w1 ⟨rfl, hb⟩
    have HB := hide hb
    clear hb
    go_wp2_with fail
    refine bodyPost_ret (v := .tuple #[.string ⟨#[]⟩, .bool false]) (by simp only [results, Tryz.results7]; go_simp) rfl ⟨rfl, HB.out⟩
  | true =>
    have HR2 : Hid (R = l.findSome? (hitE nm)) := hide (by rw [HRE.out]; rfl)
    clear HRE
    go_enter Tryz.func7, Tryz.ntmps7
    go_wp2_with fail
    refine XK.out.mono ?_
    rintro e w1 ⟨rfl, hb⟩
    have HB := hide hb
    have HR1 : Hid (Reads w1 w1.heap.size 1 A n (svs l)) := hide ((HR.out.below hb).more hb.size)
    clear hb XK
    go_wp2_with fail
    go_loopw [6, 7, 8, 9] (fun u6 _ _ _ wx => ∃ i : Nat, i ≤ n ∧ u6 = .int .i64 (i : Int) ∧ Hid (Below w1.heap.size w1 wx) ∧ Hid (∀ x ∈ l.take i, hitE nm x = none)) (fun u6 _ _ _ _ => n - (intOf u6).toNat)
    case atStart => exact ⟨0, Nat.zero_le _, rfl, hide (Below.refl _ _), hide (fun x h => by simp at h)⟩
    case round =>
      obtain ⟨i, hi, rfl, HW, HF⟩ := hrel
      by_cases hlt : i < n
      · obtain ⟨s, hsx⟩ : ∃ s, l[i]? = some s := ⟨_, List.getElem?_eq_getElem (by have := HL.out; omega)⟩
        have hsl := HS.out s (List.mem_of_getElem? hsx)
        obtain ⟨g, o, rfl, hg, hcell⟩ := cells_str (HR1.out.below HW.out) hsx
        have hia := fun W => str_at g o n c i (i : Int) rfl hlt W
        have hlt' : (i : Int) < (n : Int) := by omega
        have XC := hide (fun W => rcut_any s W (by omega))
        have HSX := hide hsx
        have HHIT : Hid (hitE nm s = (parseP s).bind fun p => if p.1 = nm then some p.2 else none) := hide rfl
        have MISS : Hid (hitE nm s = none → ∀ x ∈ l.take (i + 1), hitE nm x = none) := hide (fun h x hx => by
          obtain ⟨g1, g2⟩ := List.getElem?_eq_some_iff.1 HSX.out
          rw [List.take_succ_eq_append_getElem g1, g2, List.mem_append, List.mem_singleton] at hx
          rcases hx with hx | rfl
          · exact HF.out x hx
          · exact h)
        unfold rcutV at XC
        clear hsx
        obtain ⟨q, hq⟩ : ∃ q, parseP s = q := ⟨_, rfl⟩
        have HSM := hide (HALL.out (by first | rfl | trivial) i s HSX.out)
        rw [hq] at XC HHIT HSM
        clear hq
        cases q with
        | none => cases HSM.out
        | some p =>
          obtain ⟨pn, pv⟩ := p
          dsimp only [Option.getD, Option.isSome] at XC
          by_cases hnm : pn = nm
          · obtain rfl : R = some pv := by rw [HR2.out]; exact find_hit HF.out HSX.out (by rw [HHIT.out]; show (if pn = nm then some pv else none) = _; rw [if_pos hnm])
            have kn : (pn == nm) = true := beq_iff_eq.2 hnm
            clear hnm MISS HHIT
            go_wp2_with fail
            refine (XC.out _).mono ?_
            rintro e w2 ⟨rfl, hb⟩
            have HW2 := hide (below_more HW.out (Nat.le_refl _) hb)
            have HB2 := hide (below_more HB.out (Nat.le_refl _) HW2.out)
            clear hb
            go_wp2_with fail
            refine bodyPost_ret (v := .tuple #[.string ⟨pv.toArray⟩, .bool true]) (by simp only [results, Tryz.results7]; go_simp) rfl ⟨rfl, HB2.out⟩
          · have HF2 := hide (MISS.out (by rw [HHIT.out]; show (if pn = nm then some pv else none) = _; rw [if_neg hnm]))
            have kn : (pn == nm) = false := beq_eq_false_iff_ne.2 hnm
            clear hnm MISS HHIT
            go_wp2_with fail
            refine (XC.out _).mono ?_
            rintro e w2 ⟨rfl, hb⟩
            have HW2 := hide (below_more HW.out (Nat.le_refl _) hb)
            have HB2 := hide (below_more HB.out (Nat.le_refl _) HW2.out)
            clear hb
            go_wp2_with fail
            go_roundw
            case rel => exact ⟨i + 1, by omega, by go_num, HW2, HF2⟩
            case measure => simp [intOf]; omega
      · have hlt' : ¬ (i : Int) < (n : Int) := by omega
        obtain rfl : i = n := by omega
        obtain rfl : R = none := by
          rw [HR2.out]
          refine List.findSome?_eq_none_iff.2 ?_
          have := HF.out
          rwa [List.take_of_length_le (by rw [HL.out]; exact Nat.le_refl _)] at this
        have HBE := hide (below_more HB.out (Nat.le_refl _) HW.out)
        go_wp2_with fail
        refine bodyPost_ret (v := .tuple #[.string ⟨#[]⟩, .bool false]) (by simp only [results, Tryz.results7]; go_simp) rfl ⟨rfl, HBE.out⟩
end Go.Proofs.YtaibmfahfkoahaaGreat
