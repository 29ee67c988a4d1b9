/- The law ParamExports. -/
import Derived.Test.YtpioelpmdaeieaaGreatDoorParU
import Derived.Test.YtpioelpmdaeieaaGreatDoorSetH
namespace Go.Proofs.YtpioelpmdaeieaaGreatDoor
open Go.RowKit
set_option linter.unusedVariables false
def pairV (x : Vr) : St := (x.name, x.value)
def pairsP (l : List Vr) : List St := (l.filter Vr.exp).map pairV
theorem exps_pairs (l : List Vr) : expsP l = (pairsP l).map textS := by unfold expsP pairsP; rw [List.map_map]; rfl
theorem pairs_sorted {l : List Vr} (h : sortedP l) : sortedS (pairsP l) := List.pairwise_map.2 ((h.sublist List.filter_sublist).imp fun hlt => hlt)
theorem ins_end {S : List St} {p : St} (h : ∀ q ∈ S, q.1 < p.1) : insS S p = S ++ [p] := by
  unfold insS
  rw [List.filter_eq_self.2 (fun q hq => by simpa using h q hq), List.filter_eq_nil_iff.2 (fun q hq => by simpa using blt_asymm (h q hq)), List.append_nil]
theorem fold_texts : ∀ (P S : List St), sortedS (S ++ P) → (∀ p ∈ P, parseP (textS p) = some p) → (P.map textS).foldl stepS S = S ++ P
  | [], S, _, _ => by simp
  | p :: P, S, h, hp => by
    rw [List.map_cons, List.foldl_cons, stepS_some (hp p List.mem_cons_self), ins_end (fun q hq => (List.pairwise_append.1 h).2.2 q hq p List.mem_cons_self),
      fold_texts P (S ++ [p]) (by rw [List.append_assoc]; exact h) (fun q hq => hp q (List.mem_cons_of_mem _ hq)), List.append_assoc]; rfl
theorem of_texts {P : List St} (h : sortedS P) (hp : ∀ p ∈ P, parseP (textS p) = some p) (hl : P.length ≤ 32) : ofP (P.map textS) = P.map textS := by
  have e : ofS (P.map textS) = P := by
    have := fold_texts P [] (by simpa using h) hp
    simpa [ofS] using this
  unfold ofP
  rw [e, List.take_of_length_le hl]
theorem pairAt_text {P : List St} (hp : ∀ p ∈ P, parseP (textS p) = some p) {i : Nat} {p : St} (h : P[i]? = some p) : pairAt (P.map textS) i = some p := by
  unfold pairAt
  rw [List.getElem?_map, h]
  exact hp p (List.mem_of_getElem? h)
theorem chk_texts {P : List St} (h : sortedS P) (hp : ∀ p ∈ P, parseP (textS p) = some p) (hl : P.length ≤ 32) : envChk (P.map textS) = true := by
  unfold envChk
  rw [Bool.and_eq_true, decide_eq_true_eq, List.all_eq_true, List.length_map]
  refine ⟨hl, fun i hi => ?_⟩
  have hi : i < P.length := by simpa using hi
  have e := pairAt_text hp (List.getElem?_eq_getElem hi)
  unfold okE
  rw [e]
  by_cases h0 : i = 0
  · rw [decide_eq_true h0]; rfl
  · have e2 := pairAt_text hp (List.getElem?_eq_getElem (show i - 1 < P.length by omega))
    unfold keyE
    rw [e, e2, bytesLess_eq]
    have := List.pairwise_iff_getElem.1 h (i - 1) i (by omega) hi (by omega)
    simp only [Option.getD_some, Option.isSome_some, Bool.true_and, Bool.or_eq_true, decide_eq_true_eq]
    exact .inr this
theorem get_texts {P : List St} (h : sortedS P) (hp : ∀ p ∈ P, parseP (textS p) = some p) (hl : P.length ≤ 32) (nm : LB) : getE (P.map textS) nm = lookS P nm := by
  unfold getE
  rw [if_pos (chk_texts h hp hl)]
  unfold lookS
  clear h hl
  induction P with
  | nil => rfl
  | cons p P ih =>
    have hh : hitE nm (textS p) = if p.1 = nm then some p.2 else none := by unfold hitE; rw [hp p List.mem_cons_self]; rfl
    rw [List.map_cons, List.findSome?_cons, hh]
    by_cases he : p.1 = nm
    · rw [if_pos he, List.find?_cons_of_pos (by simpa using he)]; rfl
    · rw [if_neg he, List.find?_cons_of_neg (by simpa using he)]
      exact ih (fun q hq => hp q (List.mem_cons_of_mem _ hq))
theorem look_pairs {l : List Vr} (h : sortedP l) {x : Vr} (hx : x ∈ l) : lookS (pairsP l) x.name = if x.exp = true then some x.value else none := by
  by_cases he : x.exp = true
  · rw [if_pos he]
    exact look_mem (pairs_sorted h) (p := pairV x) (List.mem_map.2 ⟨x, List.mem_filter.2 ⟨hx, he⟩, rfl⟩)
  · rw [if_neg he]
    cases hk : lookS (pairsP l) x.name with
    | none => rfl
    | some v =>
      have hm := look_some (S := pairsP l) (x := x.name) (by rw [hk]; rfl)
      obtain ⟨p, hp, e⟩ := List.mem_map.1 hm
      obtain ⟨y, hy, rfl⟩ := List.mem_map.1 hp
      obtain ⟨hy1, hy2⟩ := List.mem_filter.1 hy
      have hxy : y = x := by
        obtain ⟨i, hi, rfl⟩ := List.getElem_of_mem hx
        obtain ⟨j, hj, rfl⟩ := List.getElem_of_mem hy1
        rcases Nat.lt_trichotomy i j with h1 | h1 | h1
        · have := List.pairwise_iff_getElem.1 h i j hi hj h1
          exact absurd e.symm (blt_ne this)
        · subst h1; rfl
        · have := List.pairwise_iff_getElem.1 h j i hj hi h1
          exact absurd e (blt_ne this)
      rw [hxy] at hy2
      exact absurd hy2 he
theorem parse_exps {l : List Vr} (hc : checkP l = true) (hv : ∀ x ∈ l, x.value.length ≤ 200) : ∀ p ∈ pairsP l, parseP (textS p) = some p := by
  intro p hp
  obtain ⟨x, hx, rfl⟩ := List.mem_map.1 hp
  have hxl := (List.mem_filter.1 hx).1
  have h1 := ((check_iff l).1 hc).2.1 x hxl
  rw [valid_eq] at h1
  unfold valueP at h1
  simp only [Bool.and_eq_true] at h1
  have h32 := h1.1
  rw [name_eq] at h32
  simp only [Bool.and_eq_true, decide_eq_true_eq] at h32
  have h32 := h32.1.1.2
  have := hv x hxl
  show parseP (x.name ++ 61 :: x.value) = _
  rw [parse_mid h1.1 h1.2.2, if_pos (by omega)]; rfl
theorem env_short {l : List Vr} (hc : checkP l = true) (hv : ∀ x ∈ l, x.value.length ≤ 200) (hl : l.length ≤ 32) :
    envP l = (pairsP l).map textS ∧ envChk (envP l) = true ∧ (∀ x ∈ l, getE (envP l) x.name = if x.exp = true then some x.value else none) ∧ (envP l).length = (pairsP l).length ∧ (pairsP l).length ≤ 32 := by
  have hs := ((check_iff l).1 hc).2.2
  have hp := parse_exps hc hv
  have hss := pairs_sorted hs
  have hl2 : (pairsP l).length ≤ 32 := by
    unfold pairsP
    rw [List.length_map]
    exact Nat.le_trans (List.length_filter_le _ _) hl
  have e : envP l = (pairsP l).map textS := by
    unfold envP
    rw [if_pos hc, exps_pairs, of_texts hss hp hl2]
  refine ⟨e, by rw [e]; exact chk_texts hss hp hl2, fun x hx => by rw [e, get_texts hss hp hl2, look_pairs hs hx], by rw [e, List.length_map], hl2⟩
theorem pairs_next {l : List Vr} {i : Nat} {x : Vr} (h : l[i]? = some x) : (pairsP (l.take (i + 1))).length = (pairsP (l.take i)).length + (if x.exp = true then 1 else 0) := by
  obtain ⟨h1, h2⟩ := List.getElem?_eq_some_iff.1 h
  unfold pairsP
  rw [List.take_succ_eq_append_getElem h1, h2, List.filter_append, List.map_append, List.length_append, List.filter_cons, List.filter_nil]
  congr 1
  split <;> rfl
set_option maxRecDepth 100000 in
set_option maxHeartbeats 16000000 in
theorem exports_any (l : List Vr) (A : Option Addr) (n c : Nat) (w : World) (hR : RdV w A n l) :
    Calls Tryz.prog 5 #[.slice A n c] w fun e w' => e = .returned (.bool true) ∧ Below w.heap.size w w' := by
  have XH := hide (fun W => heads_any W)
  have K := hide (Below.refl w.heap.size w)
  have hl := hR.len
  have XFW := hide (few_any l A n c w hR)
  have HR := hide hR
  have HL := hide hl
  obtain ⟨fw, hfw⟩ : ∃ b, fewP l = b := ⟨_, rfl⟩
  rw [hfw] at XFW
  have HFW := hide hfw
  clear hfw hR hl
  cases fw with
  | false =>
    go_enter Tryz.func5, Tryz.ntmps5
    go_wp2_with fail
    refine XFW.out.mono ?_
    rintro e w1 ⟨rfl, rfl⟩
    go_wp2_with fail
    refine (XH.out _).mono ?_
    rintro e w9 ⟨rfl, hb⟩
    replace K := hide (below_more K.out (Nat.le_refl _) hb)
    clear hb
    go_wp2_with fail
    go_ret
    exact ⟨rfl, K.out⟩
  | true =>
    obtain ⟨hn80, hs⟩ := few_names HFW.out
    have hn : n ≤ 80 := by have := HL.out; omega
    have XRC := hide (rcheck_any l hs A n c w HR.out (by omega))
    obtain ⟨ck, hck⟩ : ∃ b, checkP l = b := ⟨_, rfl⟩
    rw [hck] at XRC
    have HCK := hide hck
    have HS := hide hs
    clear hck hs hn80
    cases ck with
    | false =>
      go_enter Tryz.func5, Tryz.ntmps5
      go_wp2_with fail
      refine XFW.out.mono ?_
      rintro e w1 ⟨rfl, rfl⟩
      go_wp2_with fail
      refine XRC.out.mono ?_
      rintro e w2 ⟨rfl, hb⟩
      replace K := hide (below_more K.out (Nat.le_refl _) hb)
      have HR2 := hide (HR.out.below hb)
      clear hb
      go_wp2_with fail
      refine (XH.out _).mono ?_
      rintro e w9 ⟨rfl, hb⟩
      replace K := hide (below_more K.out (Nat.le_refl _) hb)
      clear hb
      go_wp2_with fail
      go_ret
      exact ⟨rfl, K.out⟩
    | true =>
      by_cases h32 : n ≤ 32
      · have k32 : ¬ (32 : Int) < (n : Int) := by omega
        go_enter Tryz.func5, Tryz.ntmps5
        go_wp2_with fail
        refine XFW.out.mono ?_
        rintro e w1 ⟨rfl, rfl⟩
        go_wp2_with fail
        refine XRC.out.mono ?_
        rintro e w2 ⟨rfl, hb⟩
        replace K := hide (below_more K.out (Nat.le_refl _) hb)
        have HR2 := hide (HR.out.below hb)
        clear hb
        go_wp2_with fail
        go_loopw [3] (fun u3 wx => ∃ i : Nat, i ≤ n ∧ u3 = .int .i64 (i : Int) ∧ Hid (w2 = wx) ∧ Hid (∀ x ∈ l.take i, x.value.length ≤ 200)) (fun u3 _ => n - (intOf u3).toNat)
        case atStart => exact ⟨0, Nat.zero_le _, rfl, (by first | exact hide rfl | exact hide trivial), hide (fun x h => by simp at h)⟩
        case round =>
          obtain ⟨i, hi, rfl, HW, HF⟩ := hrel
          obtain rfl := HW.out
          by_cases hlt : i < n
          · obtain ⟨x, hx⟩ : ∃ x, l[i]? = some x := ⟨_, List.getElem?_eq_getElem (by have := HL.out; omega)⟩
            obtain ⟨g, o, rfl, hg, q0, q1, q2⟩ := var_cells HR2.out hx
            have hia := fun W => var_at g o n c i (i : Int) rfl hlt W
            have hlt' : (i : Int) < (n : Int) := by omega
            have HX := hide hx
            clear hx q0 q2
            by_cases hv : x.value.length ≤ 200
            · have kv : ¬ (200 : Int) < (x.value.length : Int) := by omega
              have HF2 : Hid (∀ y ∈ l.take (i + 1), y.value.length ≤ 200) := hide (fun y hy => by
                obtain ⟨g1, g2⟩ := List.getElem?_eq_some_iff.1 HX.out
                rw [List.take_succ_eq_append_getElem g1, g2, List.mem_append, List.mem_singleton] at hy
                rcases hy with hy | rfl
                · exact HF.out y hy
                · exact hv)
              go_wp2_with fail
              go_roundw
              case rel => exact ⟨i + 1, by omega, by go_num, (by first | exact hide rfl | exact hide trivial), HF2⟩
              case measure => simp [intOf]; omega
            · have kv : (200 : Int) < (x.value.length : Int) := by omega
              go_wp2_with fail
              refine (XH.out _).mono ?_
              rintro e w9 ⟨rfl, hb⟩
              have K9 := hide (below_more K.out (Nat.le_refl _) hb)
              clear hb
              go_wp2_with fail
              go_ret
              exact ⟨rfl, K9.out⟩
          · have hlt' : ¬ (i : Int) < (n : Int) := by omega
            obtain rfl : i = n := by omega
            have HEV := hide (env_short HCK.out (by have := HF.out; rwa [List.take_of_length_le (by rw [HL.out]; exact Nat.le_refl _)] at this) (by rw [HL.out]; exact h32))
            have XE := hide (env_any l HS.out A i c _ HR2.out (by omega))
            obtain ⟨m, hm⟩ : ∃ m, (pairsP l).length = m := ⟨_, rfl⟩
            have hEL : (envP l).length = m := by rw [HEV.out.2.2.2.1, hm]
            have hm32 : m ≤ 32 := by rw [← hm]; exact HEV.out.2.2.2.2
            rw [hEL] at XE
            have HM := hide hm
            have HLN : Hid (∀ s ∈ envP l, s.length ≤ 1000000) := hide (fun s hs => by
              rw [HEV.out.1] at hs
              obtain ⟨p, hp, rfl⟩ := List.mem_map.1 hs
              obtain ⟨x, hx, rfl⟩ := List.mem_map.1 hp
              have hxl := (List.mem_filter.1 hx).1
              have h1 := ((check_iff l).1 HCK.out).2.1 x hxl
              rw [valid_eq] at h1
              unfold valueP at h1
              simp only [Bool.and_eq_true, decide_eq_true_eq] at h1
              have h2 := HS.out x hxl
              show (x.name ++ 61 :: x.value).length ≤ _
              rw [List.length_append, List.length_cons]
              omega)
            clear hm hEL
            go_wp2_with fail
            refine XE.out.mono ?_
            rintro e w3 ⟨LA, lc, rfl, hO, hb⟩
            have HO := hide hO.rd
            have HR3 := hide (HR2.out.below hb)
            have K3 := hide (below_more K.out (Nat.le_refl _) hb)
            clear hO hb XE
            go_wp2_with fail
            go_loopw [5, 6, 7, 8] (fun u5 u6 _ _ wx => ∃ i2 k : Nat, i2 ≤ i ∧ k ≤ i2 ∧ u6 = .int .i64 (i2 : Int) ∧ u5 = .int .i64 (k : Int) ∧ Hid (k = (pairsP (l.take i2)).length) ∧ Hid (Below w3.heap.size w3 wx)) (fun _ u6 _ _ _ => i - (intOf u6).toNat)
            case atStart => exact ⟨0, 0, Nat.zero_le _, Nat.zero_le _, rfl, rfl, hide rfl, hide (Below.refl _ _)⟩
            case round =>
              obtain ⟨j, k, hj, hkj, rfl, rfl, HK, HB⟩ := hrel
              by_cases hlt : j < i
              · obtain ⟨x, hx⟩ : ∃ x, l[j]? = some x := ⟨_, List.getElem?_eq_getElem (by have := HL.out; omega)⟩
                have hge := HEV.out.2.2.1 x (List.mem_of_getElem? hx)
                obtain ⟨g, o, rfl, hg, q0, q1, q2⟩ := var_cells (HR3.out.below HB.out) hx
                have hia := fun W => var_at g o i c j (j : Int) rfl hlt W
                have hlt'' : (j : Int) < (i : Int) := by omega
                have HNX := hide (pairs_next hx)
                have XG := hide (rget_any (envP l) HLN.out x.name LA m lc _ ((HO.out.below HB.out).more HB.out.size) (by omega))
                rw [hge] at XG
                have HG1 := hg
                obtain ⟨nm, vl, ex⟩ := x
                dsimp only at q0 q1 q2 XG HNX
                clear hx hge
                cases ex with
                | true =>
                  have HK2 : Hid (k + 1 = (pairsP (l.take (j + 1))).length) := hide (by rw [HNX.out, ← HK.out]; rfl)
                  rw [if_pos rfl] at XG
                  dsimp only [Option.getD, Option.isSome] at XG
                  have nv : (vl != vl) = false := by simp
                  go_wp2_with fail
                  refine XG.out.mono ?_
                  rintro e w5 ⟨rfl, hb⟩
                  replace q0 := (hb.cell (p := ⟨g, o + j * 3, none⟩) HG1).trans q0
                  replace q1 := (hb.cell (p := ⟨g, o + j * 3 + 1, none⟩) HG1).trans q1
                  replace q2 := (hb.cell (p := ⟨g, o + j * 3 + 2, none⟩) HG1).trans q2
                  have HB2 := hide (below_more HB.out (Nat.le_refl _) hb)
                  clear hb XG
                  go_wp2_with fail
                  go_roundw
                  case rel => exact ⟨j + 1, k + 1, by omega, by omega, by go_num, by go_num, HK2, HB2⟩
                  case measure => simp [intOf]; omega
                | false =>
                  have HK2 : Hid (k = (pairsP (l.take (j + 1))).length) := hide (by rw [HNX.out, ← HK.out]; rfl)
                  rw [if_neg (by decide)] at XG
                  dsimp only [Option.getD, Option.isSome] at XG
                  go_wp2_with fail
                  refine XG.out.mono ?_
                  rintro e w5 ⟨rfl, hb⟩
                  replace q0 := (hb.cell (p := ⟨g, o + j * 3, none⟩) HG1).trans q0
                  replace q1 := (hb.cell (p := ⟨g, o + j * 3 + 1, none⟩) HG1).trans q1
                  replace q2 := (hb.cell (p := ⟨g, o + j * 3 + 2, none⟩) HG1).trans q2
                  have HB2 := hide (below_more HB.out (Nat.le_refl _) hb)
                  clear hb XG
                  go_wp2_with fail
                  go_roundw
                  case rel => exact ⟨j + 1, k, by omega, by omega, by go_num, rfl, HK2, HB2⟩
                  case measure => simp [intOf]; omega
              · have hlt'' : ¬ (j : Int) < (i : Int) := by omega
                obtain rfl : j = i := by omega
                obtain rfl : k = m := by
                  rw [HK.out, ← HM.out, List.take_of_length_le (by rw [HL.out]; exact Nat.le_refl _)]
                have XCE := hide (rechk_any (envP l) HLN.out LA k lc _ ((HO.out.below HB.out).more HB.out.size) (by omega))
                rw [HEV.out.2.1] at XCE
                have KE := hide (below_more K3.out (Nat.le_refl _) HB.out)
                go_wp2_with fail
                refine XCE.out.mono ?_
                rintro e w5 ⟨rfl, hb⟩
                have K5 := hide (below_more KE.out (Nat.le_refl _) hb)
                clear hb
                go_wp2_with fail
                refine (XH.out _).mono ?_
                rintro e w9 ⟨rfl, hb⟩
                have K9 := hide (below_more K5.out (Nat.le_refl _) hb)
                clear hb
                go_wp2_with fail
                go_ret
                exact ⟨rfl, K9.out⟩
      · have k32 : (32 : Int) < (n : Int) := by omega
        go_enter Tryz.func5, Tryz.ntmps5
        go_wp2_with fail
        refine XFW.out.mono ?_
        rintro e w1 ⟨rfl, rfl⟩
        go_wp2_with fail
        refine XRC.out.mono ?_
        rintro e w2 ⟨rfl, hb⟩
        replace K := hide (below_more K.out (Nat.le_refl _) hb)
        have HR2 := hide (HR.out.below hb)
        clear hb
        go_wp2_with fail
        refine (XH.out _).mono ?_
        rintro e w9 ⟨rfl, hb⟩
        replace K := hide (below_more K.out (Nat.le_refl _) hb)
        clear hb
        go_wp2_with fail
        go_ret
        exact ⟨rfl, K.out⟩
theorem exports_b (l0 : List Vr) (A0 : Option Addr) (n0 c0 : Nat) (W : World) (w0 : RdV W A0 n0 l0) : Calls Tryz.prog 5 #[.slice A0 n0 c0] W fun e w' => e = .returned (.bool true) ∧ Below W.heap.size W w' := exports_any l0 A0 n0 c0 W w0
end Go.Proofs.YtpioelpmdaeieaaGreatDoor
