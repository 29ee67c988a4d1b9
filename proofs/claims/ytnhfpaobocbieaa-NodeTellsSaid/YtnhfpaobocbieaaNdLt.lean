/- The law NodeTells. -/
import Derived.Test.YtnhfpaobocbieaaNdQi
namespace Go.Proofs.Ytnhfpaobocbieaa
open Go.RowKit
set_option linter.unusedVariables false
set_option maxRecDepth 1000000 in
set_option maxHeartbeats 32000000 in
theorem lawtells_any (L : Option Addr) (n c : Nat) (l : List DV) (m : Int) (s : Bs) (w : World) (hF : FsR w w.heap.size L n l) (hn : n ≤ maxLen) :
    Calls Try.prog 3 #[.agg #[.slice L n c], .int .i64 m, .string ⟨s.toArray⟩] w fun e w' => e = .returned (.bool true) ∧ Below w.heap.size w w' := by
  obtain ⟨W1, hW1⟩ : ∃ W, w.alloc (.cells #[.slice L n c] 24) = W := ⟨_, rfl⟩
  have b1 : Below w.heap.size w W1 := by rw [← hW1]; exact on_alloc _ _
  have HX : Hid (Blk W1 w.heap.size 24 #[.slice L n c]) := hide (by rw [← hW1]; exact Blk.new w _ _)
  have XF := hide (few_any L n c l W1 ((hF.below b1).more b1.size) hn)
  have HFS := hide (fun (V : World) (hV : Below w.heap.size w V) => (hF.below hV).more hV.size)
  have HB := hide b1
  have k0 := one_ HX.out
  clear hF hn b1
  go_enter Try.func3, Try.ntmps3
  go_wp2_with fail
  refine XF.out.mono ?_
  rintro e w2 ⟨f, rfl, hf, hb⟩
  have HX := hide (HX.out.below hb HX.out.lt)
  have HB := hide (HB.out.trans (hb.mono HB.out.size))
  clear hb XF k0 hW1
  have k0 := one_ HX.out
  cases f with
  | false =>
    clear hf
    go_wp2_with fail
    refine (heads_any w2).mono ?_
    rintro e w3 ⟨rfl, hb⟩
    have HB := hide (HB.out.trans (hb.mono HB.out.size))
    clear hb
    go_wp2_with fail
    go_ret
    exact ⟨rfl, HB.out⟩
  | true =>
    have HFEW := hide (hf rfl)
    clear hf
    obtain ⟨q1, hq1⟩ : ∃ q, (lookP (nds l) m s).1 = q := ⟨_, rfl⟩
    obtain ⟨q2, hq2⟩ : ∃ q, (lookP (nds l) m s).2 = q := ⟨_, rfl⟩
    obtain ⟨p1, hp1⟩ : ∃ q, (parentP (nds l) m).1 = q := ⟨_, rfl⟩
    obtain ⟨T1, hT1⟩ : ∃ q, (parentP (nds l) m).2.1 = q := ⟨_, rfl⟩
    obtain ⟨f1, hf1⟩ : ∃ q, (parentP (nds l) m).2.2 = q := ⟨_, rfl⟩
    obtain ⟨T2, hT2⟩ : ∃ q, (whereP (nds l) m).1 = q := ⟨_, rfl⟩
    obtain ⟨f2, hf2⟩ : ∃ q, (whereP (nds l) m).2 = q := ⟨_, rfl⟩
    obtain ⟨E, hE⟩ : ∃ q, dirP (nds l) m 4 = q := ⟨_, rfl⟩
    obtain ⟨LP, hLP⟩ : ∃ q, listP (nds l) m = q := ⟨_, rfl⟩
    obtain ⟨CK, hCK⟩ : ∃ q, checkB (nds l) = q := ⟨_, rfl⟩
    obtain ⟨AP, hAP⟩ : ∃ q, allP (nds l) = q := ⟨_, rfl⟩
    have HAPL : Hid (AP.length ≤ 1000000) := hide (by
      rw [← hAP]
      cases hc : checkB (nds l) with
      | false => unfold allP; rw [if_pos hc]; simp
      | true =>
        rw [all_true hc, List.length_cons, List.length_map]
        have := wk_bound HFEW.out hc
        unfold WK
        omega)
    have HLPL : Hid (LP.length ≤ 1000000) := hide (by
      rw [← hLP]
      unfold listP
      split
      · rw [List.length_map]
        by_cases hd : m.toNat < (nds l).length
        · have hm : ndAt (nds l) m ∈ nds l := by
            unfold ndAt
            rw [List.getD_eq_getElem?_getD, List.getElem?_eq_getElem hd]
            exact List.getElem_mem _
          unfold nds at hm
          obtain ⟨z, hz, e⟩ := List.mem_map.1 hm
          have := (HFEW.out.each z hz).n
          have e2 : (ndAt (nds l) m).names = z.r.names := by unfold nds; rw [← e]
          rw [e2]
          omega
        · rw [ndAt_out (by omega)]; simp
      · simp)
    have X1 := hide (fun (V : World) (hV : Below w.heap.size w V) => look_any L n c l m s V (HFS.out V hV) HFEW.out)
    have X2 := hide (fun (V : World) (hV : Below w.heap.size w V) => rlook_any L n c l m s V (HFS.out V hV) HFEW.out)
    have X3 := hide (fun (V : World) (hV : Below w.heap.size w V) => list_any L n c l m V (HFS.out V hV) HFEW.out)
    have X4 := hide (fun (V : World) (hV : Below w.heap.size w V) => rlist_any L n c l m V (HFS.out V hV) HFEW.out)
    have X5 := hide (fun (V : World) (hV : Below w.heap.size w V) => parent_any L n c l m V (HFS.out V hV) HFEW.out)
    have X6 := hide (fun (V : World) (hV : Below w.heap.size w V) => rparent_any L n c l m V (HFS.out V hV) HFEW.out)
    have X7 := hide (fun (V : World) (hV : Below w.heap.size w V) => where_any L n c l m V (HFS.out V hV) HFEW.out)
    have X8 := hide (fun (V : World) (hV : Below w.heap.size w V) => rwhere_any L n c l m V (HFS.out V hV) HFEW.out)
    have XC := hide (fun (V : World) (hV : Below w.heap.size w V) => check_any L n c l V (HFS.out V hV) HFEW.out)
    have XRC := hide (fun (V : World) (hV : Below w.heap.size w V) => rcheck_any L n c l V (HFS.out V hV) HFEW.out)
    have XA := hide (fun (V : World) (hV : Below w.heap.size w V) => all_any L n c l V (HFS.out V hV) HFEW.out)
    have XRA := hide (fun (V : World) (hV : Below w.heap.size w V) => rall_any L n c l V (HFS.out V hV) HFEW.out)
    unfold ListEnd at X3 X4
    unfold AllEnd at XA XRA
    rw [hq1, hq2] at X1 X2
    rw [hE, hLP] at X3 X4
    rw [hp1, hT1, hf1] at X5 X6
    rw [hT2, hf2] at X7 X8
    rw [hCK] at XC XRC
    rw [hAP] at XA XRA
    clear hq1 hq2 hp1 hT1 hf1 hT2 hf2 hE hLP hCK hAP
    go_wp2_with fail
    with_reducible refine (X1.out _ HB.out).mono ?_
    rintro e w3 ⟨rfl, hb⟩
    have HX := hide (HX.out.below hb HX.out.lt)
    have HB := hide (HB.out.trans (hb.mono HB.out.size))
    clear hb k0
    have k0 := one_ HX.out
    go_wp2_with fail
    with_reducible refine (X2.out _ HB.out).mono ?_
    rintro e w4 ⟨rfl, hb⟩
    have HX := hide (HX.out.below hb HX.out.lt)
    have HB := hide (HB.out.trans (hb.mono HB.out.size))
    clear hb k0
    have k0 := one_ HX.out
    go_wp2_with fail
    with_reducible refine (X3.out _ HB.out).mono ?_
    rintro e w5 ⟨Aa, na, ca, rfl, ho, hb⟩
    have HOa := hide ho
    have HX := hide (HX.out.below hb HX.out.lt)
    have HB := hide (HB.out.trans (hb.mono HB.out.size))
    clear hb k0 ho
    have k0 := one_ HX.out
    go_wp2_with fail
    with_reducible refine (X4.out _ HB.out).mono ?_
    rintro e w6 ⟨Ab, nb, cb, rfl, ho, hb⟩
    have HOb := hide ho
    have HX := hide (HX.out.below hb HX.out.lt)
    have HOa := hide (HOa.out.below hb)
    have HB := hide (HB.out.trans (hb.mono HB.out.size))
    clear hb k0 ho
    have k0 := one_ HX.out
    go_wp2_with fail
    with_reducible refine (X5.out _ HB.out).mono ?_
    rintro e w7 ⟨rfl, hb⟩
    have HX := hide (HX.out.below hb HX.out.lt)
    have HOa := hide (HOa.out.below hb)
    have HOb := hide (HOb.out.below hb)
    have HB := hide (HB.out.trans (hb.mono HB.out.size))
    clear hb k0
    have k0 := one_ HX.out
    go_wp2_with fail
    with_reducible refine (X6.out _ HB.out).mono ?_
    rintro e w8 ⟨rfl, hb⟩
    have HX := hide (HX.out.below hb HX.out.lt)
    have HOa := hide (HOa.out.below hb)
    have HOb := hide (HOb.out.below hb)
    have HB := hide (HB.out.trans (hb.mono HB.out.size))
    clear hb k0
    have k0 := one_ HX.out
    go_wp2_with fail
    with_reducible refine (X7.out _ HB.out).mono ?_
    rintro e w9 ⟨rfl, hb⟩
    have HX := hide (HX.out.below hb HX.out.lt)
    have HOa := hide (HOa.out.below hb)
    have HOb := hide (HOb.out.below hb)
    have HB := hide (HB.out.trans (hb.mono HB.out.size))
    clear hb k0
    have k0 := one_ HX.out
    go_wp2_with fail
    with_reducible refine (X8.out _ HB.out).mono ?_
    rintro e w10 ⟨rfl, hb⟩
    have HX := hide (HX.out.below hb HX.out.lt)
    have HOa := hide (HOa.out.below hb)
    have HOb := hide (HOb.out.below hb)
    have HB := hide (HB.out.trans (hb.mono HB.out.size))
    clear hb k0
    have k0 := one_ HX.out
    have hY1 : (q1 == q1) = true := by simp
    have hY2 : (q2 == q2) = true := by simp
    have hY3 : (E == E) = true := by simp
    have hY4 : (p1 == p1) = true := by simp
    have hY5 : (T1 == T1) = true := by simp
    have hY6 : (f1 == f1) = true := by simp
    have hY7 : (T2 == T2) = true := by simp
    have hY8 : (f2 == f2) = true := by simp
    have hY9 : (CK == CK) = true := by simp
    have kW := hide (Below.refl w10.heap.size w10)
    have UP := hide (fun (W : World) (hk : Below w10.heap.size w10 W) => HB.out.trans (hk.mono HB.out.size))
    have allS : Hid (∀ W, Below w10.heap.size w10 W → W.cell? ⟨w.heap.size, 0, none⟩ = some (.slice L n c)) := hide (fun W hk => one_ (HX.out.below hk HX.out.lt))
    have Y16 := hide (fun (W : World) (hk : Below w10.heap.size w10 W) => texts_eq LP Aa Ab na ca nb cb W (HOa.out.below hk).rd (HOb.out.below hk).rd (by have := HOa.out.len; have := HLPL.out; omega))
    have Y17 := hide (fun (W : World) (hk : Below w10.heap.size w10 W) => XC.out W (UP.out W hk))
    have Y18 := hide (fun (W : World) (hk : Below w10.heap.size w10 W) => XRC.out W (UP.out W hk))
    have Y19 := hide (fun (W : World) (hk : Below w10.heap.size w10 W) => XA.out W (UP.out W hk))
    have Y20 := hide (fun (W : World) (hk : Below w10.heap.size w10 W) => XRA.out W (UP.out W hk))
    clear X1 X2 X3 X4 X5 X6 X7 X8 XC XRC XA XRA HOa HOb HX HFS HFEW HLPL
    go_wp2_with fail
    simp only [List.append_eq, List.cons_append, List.nil_append]
    go_region_held3 (fun V => V.cell? ⟨w.heap.size, 0, none⟩ = some (.slice L n c))
      (first | with_reducible exact allS.out _ (Below.drew kW.out) | with_reducible exact allS.out _ kW.out)
      (first
        | (go_at_call 16; with_reducible refine (Y16.out _ (Below.drew kW.out)).mono ?_
           rintro e wx ⟨rfl, kx⟩
           have kX := hide (below_more (Below.drew kW.out) (Nat.le_refl _) kx)
           clear kW
           have kW := hide kX.out
           clear kx kX)
        | (go_at_call 16; with_reducible refine (Y16.out _ kW.out).mono ?_
           rintro e wx ⟨rfl, kx⟩
           have kX := hide (below_more kW.out (Nat.le_refl _) kx)
           clear kW
           have kW := hide kX.out
           clear kx kX)
        | (go_at_call 17; with_reducible refine (Y17.out _ kW.out).mono ?_
           rintro e wx ⟨rfl, kx⟩
           have kX := hide (below_more kW.out (Nat.le_refl _) kx)
           clear kW
           have kW := hide kX.out
           clear kx kX)
        | (go_at_call 18; with_reducible refine (Y18.out _ kW.out).mono ?_
           rintro e wx ⟨rfl, kx⟩
           have kX := hide (below_more kW.out (Nat.le_refl _) kx)
           clear kW
           have kW := hide kX.out
           clear kx kX)
        | (go_at_call 19; with_reducible refine (Y19.out _ kW.out).mono ?_
           rintro e wx ⟨A8, m8, c8, rfl, ho8, kx⟩
           have HO8 := hide ho8
           have kX := hide (below_more kW.out (Nat.le_refl _) kx)
           clear kW
           have kW := hide kX.out
           clear kx kX ho8)
        | (go_at_call 20; with_reducible refine (Y20.out _ kW.out).mono ?_
           rintro e wx ⟨A9, m9, c9, rfl, ho9, kx⟩
           have HO9 := hide ho9
           have HO8 := hide (HO8.out.below kx)
           have kX := hide (below_more kW.out (Nat.le_refl _) kx)
           clear kW
           have kW := hide kX.out
           clear kx kX ho9)
        | (go_at_call 16; with_reducible refine (texts_eq AP A8 A9 m8 c8 m9 c9 _ HO8.out.rd HO9.out.rd (by have := HO8.out.len; have := HAPL.out; omega)).mono ?_
           rintro e wx ⟨rfl, kx⟩
           have kX := hide (below_more kW.out (Nat.le_refl _) kx)
           clear kW
           have kW := hide kX.out
           clear kx kX)
        | (go_at_call 22; with_reducible refine (new_any _).mono ?_
           rintro e wx ⟨rfl, hf8, kx⟩
           have HN8 := hide hf8
           have kX := hide (below_more kW.out (Nat.le_refl _) kx)
           clear kW
           have kW := hide kX.out
           clear kx kX hf8)
        | (go_at_call 23; with_reducible refine (rnew_any _).mono ?_
           rintro e wx ⟨rfl, hf9, kx⟩
           have HN9 := hide hf9
           have HN8 := hide ((HN8.out.below kx).more kx.size)
           have kX := hide (below_more kW.out (Nat.le_refl _) kx)
           clear kW
           have kW := hide kX.out
           clear kx kX hf9)
        | (go_at_call 21; with_reducible refine (rsame_root _ _ _ HN8.out HN9.out).mono ?_
           rintro e wx ⟨rfl, kx⟩
           have kX := hide (below_more kW.out (Nat.le_refl _) kx)
           clear kW
           have kW := hide kX.out
           clear kx kX)
        | (go_at_call 7; with_reducible refine (heads_any _).mono ?_
           rintro e wx ⟨rfl, kx⟩
           have kX := hide (below_more kW.out (Nat.le_refl _) kx)
           clear kW
           have kW := hide kX.out
           clear kx kX))
    all_goals
      go_wp2
      go_ret
      exact ⟨rfl, UP.out _ kW.out⟩
end Go.Proofs.Ytnhfpaobocbieaa
