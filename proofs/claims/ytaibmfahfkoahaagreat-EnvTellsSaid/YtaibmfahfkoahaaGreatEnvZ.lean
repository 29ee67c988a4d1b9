/- The document's without, put and Of on settings (layer 11). -/
import Derived.Test.YtaibmfahfkoahaaGreatEnvH
import Derived.Test.YtaibmfahfkoahaaGreatMem
namespace Go.Proofs.YtaibmfahfkoahaaGreat
open Go.RowKit
set_option linter.unusedVariables false
theorem rcut_good {s : LB} {p : St} (h : parseP s = some p) : rcutV s = .tuple #[.string ⟨p.1.toArray⟩, .string ⟨p.2.toArray⟩, .bool true] := by unfold rcutV; rw [h]; rfl
set_option maxRecDepth 100000 in
set_option maxHeartbeats 8000000 in
theorem rwithout_any (S : List St) (hg : Good S) (nm : LB) (A : Option Addr) (n c : Nat) (w : World) (hR : Reads w w.heap.size 1 A n (svs (S.map textS))) (hn : n ≤ 10000) :
    Calls Tryz.prog 31 #[.slice A n c, .string ⟨nm.toArray⟩] w fun e w' => ∃ A' c', e = .returned (.slice A' (notK nm S).length c') ∧ Ow w.heap.size w' A' (notK nm S).length c' ((notK nm S).map textS) ∧ Below w.heap.size w w' := by
  obtain ⟨i0, hi0, hz0, hz1, hz2⟩ := info_parts infoStr
  have hl : S.length = n := by have := hR.1; rw [svs_length, List.length_map] at this; omega
  have HR := hide hR
  have HL := hide hl
  have HG := hide hg
  clear hR hl hg
  go_enter Tryz.func31, Tryz.ntmps31
  go_wp2_with fail
  go_loopw [5, 6, 7, 8, 9] (fun u5 u6 _ _ _ wx => ∃ (i m : Nat) (A' : Option Addr) (c' : Nat), i ≤ n ∧ m ≤ i ∧ u6 = .int .i64 (i : Int) ∧ u5 = .slice A' m c' ∧ Hid (Ow w.heap.size wx A' m c' ((notK nm (S.take i)).map textS)) ∧ Hid (Below w.heap.size w wx)) (fun _ u6 _ _ _ _ => n - (intOf u6).toNat)
  case atStart => exact ⟨0, 0, none, 0, Nat.zero_le _, Nat.zero_le _, rfl, rfl, hide (Ow.none_ _ _), hide (Below.refl _ _)⟩
  case round =>
    obtain ⟨i, m, A', c', hi, hmi, rfl, rfl, HO, HB⟩ := hrel
    by_cases hlt : i < n
    · obtain ⟨p, hp⟩ : ∃ p, S[i]? = some p := ⟨_, List.getElem?_eq_getElem (by have := HL.out; omega)⟩
      obtain ⟨hsx, hpp, hlen⟩ := HG.out.cell hp
      obtain ⟨g, o, rfl, hg, hcell⟩ := cells_str (HR.out.below HB.out) hsx
      have hia := fun W => str_at g o n c i (i : Int) rfl hlt W
      have HNX := hide (notK_next nm hp)
      have XC := hide (fun W => rcut_any (textS p) W (by omega))
      rw [rcut_good hpp] at XC
      have hlt' : (i : Int) < (n : Int) := by omega
      have HGL : Hid (g < wr.heap.size) := hide (Nat.lt_of_lt_of_le hg HB.out.size)
      obtain ⟨pn, pv⟩ := p
      dsimp only at XC HNX
      obtain ⟨t, ht⟩ : ∃ t, textS (pn, pv) = t := ⟨_, rfl⟩
      rw [ht] at XC HNX hcell
      clear hp hsx hpp hlen ht hg
      obtain ⟨b, hb0⟩ : ∃ b, (pn == nm) = b := ⟨_, rfl⟩
      rw [bne, hb0] at HNX
      cases b with
      | true =>
        have HNX2 : Hid ((notK nm (S.take (i + 1))).map textS = (notK nm (S.take i)).map textS) := hide (by rw [HNX.out]; simp)
        clear HNX
        go_wp2_with fail
        refine (XC.out _).mono ?_
        rintro e w1 ⟨rfl, hb⟩
        have HO2 := hide (HO.out.below hb)
        have HB2 := hide (below_more HB.out (Nat.le_refl _) hb)
        clear hb
        go_wp2_with fail
        go_roundw
        case rel => exact ⟨i + 1, m, A', c', by omega, by omega, by go_num, rfl, hide (by rw [HNX2.out]; exact HO2.out), HB2⟩
        case measure => simp [intOf]; omega
      | false =>
        have HNX2 : Hid ((notK nm (S.take (i + 1))).map textS = (notK nm (S.take i)).map textS ++ [t]) := hide (by rw [HNX.out]; simp)
        clear HNX
        go_wp2_with fail
        refine (XC.out _).mono ?_
        rintro e w1 ⟨rfl, hb⟩
        have HO2 := hide (HO.out.below hb)
        have HB2 := hide (below_more HB.out (Nat.le_refl _) hb)
        replace hcell := (hb.cell (p := ⟨g, o + i, none⟩) HGL.out).trans hcell
        have hr1 := one_str w1 t
        have hO1 := HO2.out.alloc (.cells #[.string ⟨t.toArray⟩] 9)
        have hsz := HB2.out.size
        clear hb
        go_wp2_with (at_builtin; (refine wpList_append_any _ rfl (.tmp 28) (.tmp 33) 22 rfl w.heap.size 9 i0 _ 1 16 Tryz.underlying22 hi0 hz0 hz1 hz2 rfl (by omega) (.slice A' m c') m (svs ((notK nm (S.take i)).map textS)) rfl hO1 (w1.heap.size + 1) (some ⟨w1.heap.size, 0, none⟩) 1 1 (svs [t]) rfl hr1 (svs_one _) ?c1 ?c2 ?c3 ?_))
        case c1 => unfold maxLen; omega
        case c2 => omega
        case c3 => simp; omega
        intro v1 w6 hown1 hg1 hat1
        obtain ⟨A2, c2, rfl, O2, W2⟩ := ow_next' HO2.out hown1 hg1 HB2.out (Nat.le_refl _)
        have HO6 : Hid (Ow w.heap.size w6 A2 (m + 1) c2 ((notK nm (S.take (i + 1))).map textS)) := hide (by rw [HNX2.out]; exact O2)
        have HB6 := hide W2
        clear hown1 hg1 hat1 O2 W2 hr1 hO1
        go_wp2_with fail
        go_roundw
        case rel => exact ⟨i + 1, m + 1, A2, c2, by omega, by omega, by go_num, rfl, HO6, HB6⟩
        case measure => simp [intOf]; omega
    · have hlt' : ¬ (i : Int) < (n : Int) := by omega
      obtain rfl : i = n := by omega
      have HOE : Hid (Ow w.heap.size wr A' m c' ((notK nm S).map textS)) := hide (by have := HO.out; rwa [List.take_of_length_le (by rw [HL.out]; exact Nat.le_refl _)] at this)
      have HME : Hid ((notK nm S).length = m) := hide (by have := HOE.out.len; rwa [List.length_map] at this)
      go_wp2_with fail
      go_ret
      exact ⟨A', c', by rw [HME.out]; rfl, by rw [HME.out]; exact HOE.out, HB.out⟩
set_option maxRecDepth 100000 in
set_option maxHeartbeats 8000000 in
theorem rput11_any (S : List St) (hg : Good S) (s : LB) (p : St) (hp : parseP s = some p) (A : Option Addr) (n c : Nat) (w : World) (hR : Reads w w.heap.size 1 A n (svs (S.map textS))) (hn : n ≤ 10000) (hnc : n ≤ c) :
    Calls Tryz.prog 30 #[.slice A n c, .string ⟨s.toArray⟩] w fun e w' => ∃ A' c', e = .returned (.slice A' (n + 1) c') ∧ Ow w.heap.size w' A' (n + 1) c' ((S.take (atK p.1 S) ++ [p] ++ S.drop (atK p.1 S)).map textS) ∧ Below w.heap.size w w' := by
  obtain ⟨i0, hi0, hz0, hz1, hz2⟩ := info_parts infoStr
  have hl : S.length = n := by have := hR.1; rw [svs_length, List.length_map] at this; omega
  have hts := parse_text hp
  have hsl := (parse_name hp).2.1
  have XS := hide (fun W => rcut_any s W (by omega))
  rw [rcut_good hp] at XS
  have HTS := hide hts
  have HR := hide hR
  have HL := hide hl
  have HG := hide hg
  obtain ⟨KK, hK⟩ : ∃ K, atK p.1 S = K := ⟨_, rfl⟩
  have HK := hide hK
  rw [hK]
  obtain ⟨pn, pv⟩ := p
  dsimp only at XS HK
  clear hR hl hg hts hp hK
  go_enter Tryz.func30, Tryz.ntmps30
  go_wp2_with fail
  refine (XS.out _).mono ?_
  rintro e w1 ⟨rfl, hb⟩
  have HB1 := hide hb
  have HR1 : Hid (Reads w1 w1.heap.size 1 A n (svs (S.map textS))) := hide ((HR.out.below hb).more hb.size)
  clear hb XS
  go_wp2_with fail
  go_loopw [8, 9, 10, 11] (fun u8 _ _ _ wx => ∃ i : Nat, i ≤ n ∧ u8 = .int .i64 (i : Int) ∧ Hid (Below w1.heap.size w1 wx) ∧ Hid (∀ q ∈ S.take i, ¬ pn < q.1)) (fun u8 _ _ _ _ => n - (intOf u8).toNat)
  case atStart => exact ⟨0, Nat.zero_le _, rfl, hide (Below.refl _ _), hide (fun q h => by simp at h)⟩
  case round =>
    obtain ⟨i, hi, rfl, HB, HF⟩ := hrel
    skip
    by_cases hlt : i < n
    · obtain ⟨q, hq⟩ : ∃ q, S[i]? = some q := ⟨_, List.getElem?_eq_getElem (by have := HL.out; omega)⟩
      obtain ⟨hsx, hqq, hlen⟩ := HG.out.cell hq
      obtain ⟨g, o, rfl, hg, hcell⟩ := cells_str (HR1.out.below HB.out) hsx
      have hia := fun W => str_at g o n c i (i : Int) rfl hlt W
      have XC := hide (fun W => rcut_any (textS q) W (by omega))
      rw [rcut_good hqq] at XC
      have hlt' : (i : Int) < (n : Int) := by omega
      have HQ := hide hq
      obtain ⟨qn, qv⟩ := q
      dsimp only at XC
      have hgt : (!(Op.bytesLess qn pn || qn == pn)) = Op.bytesLess pn qn := by
        rw [bytesLess_eq, bytesLess_eq]
        rcases blt_tri qn pn with h | h | h
        · rw [decide_eq_true h, decide_eq_false (blt_asymm h)]; rfl
        · subst h; rw [decide_eq_false (blt_irrefl qn)]; simp
        · rw [decide_eq_true h, decide_eq_false (blt_asymm h), beq_eq_false_iff_ne.2 (blt_ne h).symm]; rfl
      obtain ⟨b, hb0⟩ : ∃ b, Op.bytesLess pn qn = b := ⟨_, rfl⟩
      rw [hb0] at hgt
      have HBB : Hid (decide (pn < qn) = b) := hide (by rw [← bytesLess_eq, hb0])
      clear hq hsx hqq hlen hb0
      cases b with
      | false =>
        have HF2 : Hid (∀ x ∈ S.take (i + 1), ¬ pn < x.1) := hide (fun x hx => by
          obtain ⟨g1, g2⟩ := List.getElem?_eq_some_iff.1 HQ.out
          rw [List.take_succ_eq_append_getElem g1, g2, List.mem_append, List.mem_singleton] at hx
          rcases hx with hx | rfl
          · exact HF.out x hx
          · exact of_decide_eq_false HBB.out)
        go_wp2_with fail
        refine (XC.out _).mono ?_
        rintro e w2 ⟨rfl, hb⟩
        have HB2 := hide (below_more HB.out (Nat.le_refl _) hb)
        clear hb
        go_wp2_with fail
        go_roundw
        case rel => exact ⟨i + 1, by omega, by go_num, HB2, HF2⟩
        case measure => simp [intOf]; omega
      | true =>
        have HKI : Hid (KK = i) := hide (HK.out.symm.trans (atK_of HF.out (by have := HL.out; omega) (.inr ⟨_, HQ.out, of_decide_eq_true HBB.out⟩)))
        go_wp2_with fail
        refine (XC.out _).mono ?_
        rintro e w2 ⟨rfl, hb⟩
        have HB2 := hide (below_more HB.out (Nat.le_refl _) hb)
        have HRE : Hid (Reads w2 w2.heap.size 1 (some ⟨g, o, none⟩) n (svs (S.map textS))) := hide ((HR1.out.below HB2.out).more HB2.out.size)
        have HBE := hide (below_more HB1.out (Nat.le_refl _) HB2.out)
        clear hb hcell hia XC HB HB2
        have hsl1 := fun W => ssl_to (some (⟨g, o, none⟩ : Addr)) n c i (i : Int) rfl (by omega) W
        have hsl2 := fun W => ssl_from (some (⟨g, o, none⟩ : Addr)) n c i (by omega) W
        obtain ⟨T, hT⟩ : ∃ T, (if c = i then (some (⟨g, o, none⟩ : Addr)) else (some (⟨g, o, none⟩ : Addr)).map (·.add i)) = T := ⟨_, rfl⟩
        have hrd := reads_drop HRE.out (k := i) (by omega) hnc
        rw [hT] at hsl2 hrd
        rw [← List.map_drop] at hrd
        have HRD := hide hrd
        have hown0 : (w2.alloc (.cells #[] 9)).ownsRow w2.heap.size 9 1 (.slice (some ⟨w2.heap.size, 0, none⟩) 0 0) 0 [] := by
          refine ⟨rfl, .inr ⟨w2.heap.size, 0, #[], rfl, Nat.le_refl _, ?_⟩⟩
          exact ⟨Blk.new w2 9 #[], Nat.le_refl _, by simp [maxLen], by simp, by simp⟩
        have hrt := (reads_take (HRE.out.alloc (Nat.le_refl _) (.cells #[] 9)) (k := i) (by omega))
        rw [← List.map_take] at hrt
        clear hT hrd
        go_wp2_with (at_builtin; (refine wpList_append_any _ rfl (.tmp 37) (.tmp 40) 22 rfl w2.heap.size 9 i0 _ 1 16 Tryz.underlying22 hi0 hz0 hz1 hz2 rfl (by omega) (.slice (some ⟨w2.heap.size, 0, none⟩) 0 0) 0 [] rfl hown0 _ (some (⟨g, o, none⟩ : Addr)) i c (svs ((S.take i).map textS)) rfl hrt (svs_one _) ?c1 ?c2 (by simp) ?_))
        case c1 => unfold maxLen; omega
        case c2 => omega
        intro v3 w3 hown3 hg3 hat3
        obtain ⟨A3, c3', rfl⟩ := own_slice hown3
        have HO3 : Hid (Ow w2.heap.size w3 A3 i c3' ((S.take i).map textS)) := hide (by unfold Ow; simpa using hown3)
        have HB3 : Hid (Below w2.heap.size w2 w3) := hide (((Below.refl _ _).alloc (Nat.le_refl _) _).grown hg3 (by simp) (fun g hg => by simp [Value.ownBlock] at hg; omega))
        have hsz3 := HB3.out.size
        clear hown0 hrt hown3 hg3 hat3 hsl1
        try simp only [Nat.zero_add]
        go_wp2_with fail
        refine wp_region_M (fun V => True) 8 rfl trivial (fun hHeld => ?_)
        refine wpAnyM_take (i := 0) (v := ?_) rfl rfl (by kernel_rfl) (fun _ _ _ h => h) (Or.inl ⟨by rfl, ?_⟩) (by assumption) ?_
        rotate_left
        · (intro V hV; (try dsimp only at hV); go_simp; with_reducible rfl)
        try simp only [Act.put, List.setIfInBounds_toArray, List.set_cons_zero, List.set_cons_succ]
        refine wpAnyM_take (i := 1) (v := ?_) rfl rfl (by kernel_rfl) (fun _ _ _ h => h) (Or.inl ⟨by rfl, ?_⟩) (by assumption) ?_
        rotate_left
        · (intro V hV; (try dsimp only at hV); go_simp; with_reducible rfl)
        try simp only [Act.put, List.setIfInBounds_toArray, List.set_cons_zero, List.set_cons_succ]
        refine wpAnyM_take (i := 4) (v := ?_) rfl rfl (by kernel_rfl) (fun _ _ _ h => h) (Or.inl ⟨by rfl, ?_⟩) (by assumption) ?_
        rotate_left
        · (intro V hV; (try dsimp only at hV); go_simp; with_reducible rfl)
        try simp only [Act.put, List.setIfInBounds_toArray, List.set_cons_zero, List.set_cons_succ]
        refine wpAnyM_take (i := 5) (v := ?_) rfl rfl (by kernel_rfl) (fun _ _ _ h => h) (Or.inl ⟨by rfl, ?_⟩) (by assumption) ?_
        rotate_left
        · (intro V hV; (try dsimp only at hV); go_simp; with_reducible rfl)
        try simp only [Act.put, List.setIfInBounds_toArray, List.set_cons_zero, List.set_cons_succ]
        refine wpAnyM_take (i := 6) (v := ?_) rfl rfl (by kernel_rfl) (fun _ _ _ h => h) (Or.inl ⟨by rfl, ?_⟩) (by assumption) ?_
        rotate_left
        · (intro V hV; (try dsimp only at hV); go_simp; with_reducible rfl)
        try simp only [Act.put, List.setIfInBounds_toArray, List.set_cons_zero, List.set_cons_succ]
        refine wpAnyM_step (i := 2) (by kernel_rfl) rfl rfl (fun K hK => ?_)
        go_simp
        refine hK.out _ _ (fun _ => trivial) ?_
        clear hK K hHeld
        have HR1' := hide (one_str w3 s)
        have HO1' := hide (HO3.out.alloc (.cells #[.string ⟨s.toArray⟩] 9))
        simp only [List.setIfInBounds_toArray]
        refine wpAnyM_step (i := 3) (by kernel_rfl) rfl rfl (fun K hK => ?_)
        refine step_append_any _ rfl (.tmp 42) (.tmp 44) 22 rfl w2.heap.size 9 i0 _ 1 16 Tryz.underlying22 hi0 hz0 hz1 hz2 rfl (by omega) (.slice A3 i c3') i (svs ((S.take i).map textS)) (by first | rfl | (show Value.slice A3 (0 + i) c3' = _; rw [Nat.zero_add])) (by exact HO1'.out) (w3.heap.size + 1) (some ⟨w3.heap.size, 0, none⟩) 1 1 (svs [s]) rfl (by exact HR1'.out) (svs_one _) (by unfold maxLen; omega) (by omega) (by show _ ≤ (w3.alloc _).heap.size; simp; omega) ?_
        intro v4 w4 hown4 hg4 hat4
        have hg4' : (w3.alloc (.cells #[.string ⟨s.toArray⟩] 9)).grownBy w4 (Value.slice A3 i c3').ownBlock := ⟨hg4.os, hg4.tape, hg4.output, hg4.size, hg4.block⟩
        obtain ⟨A4, c4, rfl, O4, B4⟩ := ow_next' HO3.out hown4 hg4' HB3.out (Nat.le_refl _)
        have HO4 := hide O4
        have HB4 := hide B4
        have HRD4 : Hid (Reads w4 w4.heap.size 1 T (n - i) (svs ((S.drop i).map textS))) := hide ((HRD.out.below HB4.out).more HB4.out.size)
        clear hown4 hg4 hg4' hat4 O4 B4 HR1' HO1'
        refine hK.out _ _ (fun _ => trivial) ?_
        clear hK K
        simp only [List.setIfInBounds_toArray]
        refine wpAnyM_step (i := 7) (by kernel_rfl) rfl rfl (fun K hK => ?_)
        refine step_append_any _ rfl (.tmp 45) (.tmp 48) 22 rfl w2.heap.size 9 i0 _ 1 16 Tryz.underlying22 hi0 hz0 hz1 hz2 rfl (by omega) (.slice A4 (i + 1) c4) (i + 1) (svs ((S.take i).map textS ++ [s])) rfl (by exact HO4.out) _ T (n - i) (c - i) (svs ((S.drop i).map textS)) rfl (by exact HRD4.out) (svs_one _) (by unfold maxLen; omega) (by omega) (by have := HB4.out.size; omega) ?_
        intro v5 w5 hown5 hg5 hat5
        obtain ⟨A5, c5, rfl⟩ := own_slice hown5
        have HLN : i + 1 + (n - i) = n + 1 := by omega
        rw [← svs_append, HLN] at hown5
        rw [HLN]
        have HO5 : Hid (Ow w2.heap.size w5 A5 (n + 1) c5 ((S.take KK ++ [(pn, pv)] ++ S.drop KK).map textS)) := hide (by
          rw [HKI.out, List.map_append, List.map_append, List.map_singleton, HTS.out]
          exact hown5)
        have HB5 : Hid (Below w2.heap.size w2 w5) := hide (HB4.out.grown hg5 HB4.out.size (fun g hg => (World.ownsRow.lt HO4.out g hg).1))
        have K5 := hide (below_more HBE.out (Nat.le_refl _) HB5.out)
        clear hown5 hg5 hat5
        refine hK.out _ _ (fun _ => trivial) ?_
        clear hK K
        simp only [List.setIfInBounds_toArray]
        refine wpAnyM_step (i := 8) (by kernel_rfl) rfl rfl (fun K hK => ?_)
        go_simp
        refine hK.out _ _ (fun h => absurd rfl h) ?_
        refine wpAnyM_done (by kernel_rfl) ?_ _
        clear hK K
        go_wp2_with fail
        go_ret
        exact ⟨A5, c5, rfl, HO5.out.more HBE.out.size, K5.out⟩
    · have hlt' : ¬ (i : Int) < (n : Int) := by omega
      have HKI : Hid (KK = i) := hide (HK.out.symm.trans (atK_of HF.out (by have := HL.out; omega) (.inl (by have := HL.out; omega))))
      have HRE : Hid (Reads wr wr.heap.size 1 A n (svs (S.map textS))) := hide ((HR1.out.below HB.out).more HB.out.size)
      have HBE := hide (below_more HB1.out (Nat.le_refl _) HB.out)
      clear HB
      have hsl1 := fun W => ssl_to A n c i (i : Int) rfl (by omega) W
      have hsl2 := fun W => ssl_from A n c i (by omega) W
      obtain ⟨T, hT⟩ : ∃ T, (if c = i then A else A.map (·.add i)) = T := ⟨_, rfl⟩
      have hrd := reads_drop HRE.out (k := i) (by omega) hnc
      rw [hT] at hsl2 hrd
      rw [← List.map_drop] at hrd
      have HRD := hide hrd
      have hown0 : (wr.alloc (.cells #[] 9)).ownsRow wr.heap.size 9 1 (.slice (some ⟨wr.heap.size, 0, none⟩) 0 0) 0 [] := by
        refine ⟨rfl, .inr ⟨wr.heap.size, 0, #[], rfl, Nat.le_refl _, ?_⟩⟩
        exact ⟨Blk.new wr 9 #[], Nat.le_refl _, by simp [maxLen], by simp, by simp⟩
      have hrt := (reads_take (HRE.out.alloc (Nat.le_refl _) (.cells #[] 9)) (k := i) (by omega))
      rw [← List.map_take] at hrt
      clear hT hrd
      go_wp2_with (at_builtin; (refine wpList_append_any _ rfl (.tmp 37) (.tmp 40) 22 rfl wr.heap.size 9 i0 _ 1 16 Tryz.underlying22 hi0 hz0 hz1 hz2 rfl (by omega) (.slice (some ⟨wr.heap.size, 0, none⟩) 0 0) 0 [] rfl hown0 _ A i c (svs ((S.take i).map textS)) rfl hrt (svs_one _) ?c1 ?c2 (by simp) ?_))
      case c1 => unfold maxLen; omega
      case c2 => omega
      intro v3 w3 hown3 hg3 hat3
      obtain ⟨A3, c3', rfl⟩ := own_slice hown3
      have HO3 : Hid (Ow wr.heap.size w3 A3 i c3' ((S.take i).map textS)) := hide (by unfold Ow; simpa using hown3)
      have HB3 : Hid (Below wr.heap.size wr w3) := hide (((Below.refl _ _).alloc (Nat.le_refl _) _).grown hg3 (by simp) (fun g hg => by simp [Value.ownBlock] at hg; omega))
      have hsz3 := HB3.out.size
      clear hown0 hrt hown3 hg3 hat3 hsl1
      try simp only [Nat.zero_add]
      go_wp2_with fail
      refine wp_region_M (fun V => True) 8 rfl trivial (fun hHeld => ?_)
      refine wpAnyM_take (i := 0) (v := ?_) rfl rfl (by kernel_rfl) (fun _ _ _ h => h) (Or.inl ⟨by rfl, ?_⟩) (by assumption) ?_
      rotate_left
      · (intro V hV; (try dsimp only at hV); go_simp; with_reducible rfl)
      try simp only [Act.put, List.setIfInBounds_toArray, List.set_cons_zero, List.set_cons_succ]
      refine wpAnyM_take (i := 1) (v := ?_) rfl rfl (by kernel_rfl) (fun _ _ _ h => h) (Or.inl ⟨by rfl, ?_⟩) (by assumption) ?_
      rotate_left
      · (intro V hV; (try dsimp only at hV); go_simp; with_reducible rfl)
      try simp only [Act.put, List.setIfInBounds_toArray, List.set_cons_zero, List.set_cons_succ]
      refine wpAnyM_take (i := 4) (v := ?_) rfl rfl (by kernel_rfl) (fun _ _ _ h => h) (Or.inl ⟨by rfl, ?_⟩) (by assumption) ?_
      rotate_left
      · (intro V hV; (try dsimp only at hV); go_simp; with_reducible rfl)
      try simp only [Act.put, List.setIfInBounds_toArray, List.set_cons_zero, List.set_cons_succ]
      refine wpAnyM_take (i := 5) (v := ?_) rfl rfl (by kernel_rfl) (fun _ _ _ h => h) (Or.inl ⟨by rfl, ?_⟩) (by assumption) ?_
      rotate_left
      · (intro V hV; (try dsimp only at hV); go_simp; with_reducible rfl)
      try simp only [Act.put, List.setIfInBounds_toArray, List.set_cons_zero, List.set_cons_succ]
      refine wpAnyM_take (i := 6) (v := ?_) rfl rfl (by kernel_rfl) (fun _ _ _ h => h) (Or.inl ⟨by rfl, ?_⟩) (by assumption) ?_
      rotate_left
      · (intro V hV; (try dsimp only at hV); go_simp; with_reducible rfl)
      try simp only [Act.put, List.setIfInBounds_toArray, List.set_cons_zero, List.set_cons_succ]
      refine wpAnyM_step (i := 2) (by kernel_rfl) rfl rfl (fun K hK => ?_)
      go_simp
      refine hK.out _ _ (fun _ => trivial) ?_
      clear hK K hHeld
      have HR1' := hide (one_str w3 s)
      have HO1' := hide (HO3.out.alloc (.cells #[.string ⟨s.toArray⟩] 9))
      simp only [List.setIfInBounds_toArray]
      refine wpAnyM_step (i := 3) (by kernel_rfl) rfl rfl (fun K hK => ?_)
      refine step_append_any _ rfl (.tmp 42) (.tmp 44) 22 rfl wr.heap.size 9 i0 _ 1 16 Tryz.underlying22 hi0 hz0 hz1 hz2 rfl (by omega) (.slice A3 i c3') i (svs ((S.take i).map textS)) (by first | rfl | (show Value.slice A3 (0 + i) c3' = _; rw [Nat.zero_add])) (by exact HO1'.out) (w3.heap.size + 1) (some ⟨w3.heap.size, 0, none⟩) 1 1 (svs [s]) rfl (by exact HR1'.out) (svs_one _) (by unfold maxLen; omega) (by omega) (by show _ ≤ (w3.alloc _).heap.size; simp; omega) ?_
      intro v4 w4 hown4 hg4 hat4
      have hg4' : (w3.alloc (.cells #[.string ⟨s.toArray⟩] 9)).grownBy w4 (Value.slice A3 i c3').ownBlock := ⟨hg4.os, hg4.tape, hg4.output, hg4.size, hg4.block⟩
      obtain ⟨A4, c4, rfl, O4, B4⟩ := ow_next' HO3.out hown4 hg4' HB3.out (Nat.le_refl _)
      have HO4 := hide O4
      have HB4 := hide B4
      have HRD4 : Hid (Reads w4 w4.heap.size 1 T (n - i) (svs ((S.drop i).map textS))) := hide ((HRD.out.below HB4.out).more HB4.out.size)
      clear hown4 hg4 hg4' hat4 O4 B4 HR1' HO1'
      refine hK.out _ _ (fun _ => trivial) ?_
      clear hK K
      simp only [List.setIfInBounds_toArray]
      refine wpAnyM_step (i := 7) (by kernel_rfl) rfl rfl (fun K hK => ?_)
      refine step_append_any _ rfl (.tmp 45) (.tmp 48) 22 rfl wr.heap.size 9 i0 _ 1 16 Tryz.underlying22 hi0 hz0 hz1 hz2 rfl (by omega) (.slice A4 (i + 1) c4) (i + 1) (svs ((S.take i).map textS ++ [s])) rfl (by exact HO4.out) _ T (n - i) (c - i) (svs ((S.drop i).map textS)) rfl (by exact HRD4.out) (svs_one _) (by unfold maxLen; omega) (by omega) (by have := HB4.out.size; omega) ?_
      intro v5 w5 hown5 hg5 hat5
      obtain ⟨A5, c5, rfl⟩ := own_slice hown5
      have HLN : i + 1 + (n - i) = n + 1 := by omega
      rw [← svs_append, HLN] at hown5
      rw [HLN]
      have HO5 : Hid (Ow wr.heap.size w5 A5 (n + 1) c5 ((S.take KK ++ [(pn, pv)] ++ S.drop KK).map textS)) := hide (by
        rw [HKI.out, List.map_append, List.map_append, List.map_singleton, HTS.out]
        exact hown5)
      have HB5 : Hid (Below wr.heap.size wr w5) := hide (HB4.out.grown hg5 HB4.out.size (fun g hg => (World.ownsRow.lt HO4.out g hg).1))
      have K5 := hide (below_more HBE.out (Nat.le_refl _) HB5.out)
      clear hown5 hg5 hat5
      refine hK.out _ _ (fun _ => trivial) ?_
      clear hK K
      simp only [List.setIfInBounds_toArray]
      refine wpAnyM_step (i := 8) (by kernel_rfl) rfl rfl (fun K hK => ?_)
      go_simp
      refine hK.out _ _ (fun h => absurd rfl h) ?_
      refine wpAnyM_done (by kernel_rfl) ?_ _
      clear hK K
      go_wp2_with fail
      go_ret
      exact ⟨A5, c5, rfl, HO5.out.more HBE.out.size, K5.out⟩
end Go.Proofs.YtaibmfahfkoahaaGreat
