/- The contracts of env.Set and env.Unset. -/
import Derived.Test.YtaibmfahfkoahaaGreatEnvW
namespace Go.Proofs.YtaibmfahfkoahaaGreat
open Go.RowKit
set_option linter.unusedVariables false
theorem rb {w w' : World} {A : Option Addr} {n : Nat} {xs : List Value} (h : Reads w w.heap.size 1 A n xs) (hb : Below w.heap.size w w') : Reads w' w'.heap.size 1 A n xs := (h.below hb).more hb.size
theorem pairs_short {l : List LB} : ∀ p ∈ pairsOf l, p.1.length ≤ 256 ∧ p.2.length ≤ 256 := by
  intro p hp
  unfold pairsOf at hp
  obtain ⟨s, hs, e⟩ := List.mem_filterMap.1 hp
  have h1 := (parse_name e).2.1
  have h2 := parse_len e
  omega
theorem set_no {l : List LB} {n v : LB} (h : (envChk l && formsP n v) = false) : setP l n v = (l, 2) := by
  unfold setP; rw [if_neg (by rw [h]; decide)]
theorem set_full {l : List LB} {n v : LB} (h : (envChk l && formsP n v) = true) (h2 : (notK n (pairsOf l)).length = 32) : setP l n v = (l, 4) := by
  unfold setP; rw [if_pos h, if_pos h2]
theorem set_yes {l : List LB} {n v : LB} (h : (envChk l && formsP n v) = true) (h2 : (notK n (pairsOf l)).length ≠ 32) : setP l n v = ((insS (pairsOf l) (n, v)).map textS, 0) := by
  unfold setP; rw [if_pos h, if_neg h2]
set_option maxRecDepth 100000 in
set_option maxHeartbeats 8000000 in
theorem set_any (l : List LB) (hs : ∀ s ∈ l, s.length ≤ 100000) (nm vl : LB) (h1 : nm.length ≤ 100000) (h2 : vl.length ≤ 100000) (A : Option Addr) (n c : Nat) (w : World) (hR : Reads w w.heap.size 1 A n (svs l)) (hn : n ≤ 1000000) :
    Calls Tryz.prog 8 #[.slice A n c, .string ⟨nm.toArray⟩, .string ⟨vl.toArray⟩] w fun e w' => ∃ A' n' c', e = .returned (.tuple #[.slice A' n' c', .int .i64 ((setP l nm vl).2 : Int)]) ∧ Ow w.heap.size w' A' n' c' (setP l nm vl).1 ∧ Below w.heap.size w w' := by
  obtain ⟨i0, hi0, hz0, hz1, hz2⟩ := info_parts infoSet
  have XR := hide (read_any l (fun s h => by have := hs s h; omega) A n c w hR hn)
  have XF := hide (fun W => forms_any nm vl h1 h2 W)
  have XL := hide (fun W (h : Reads W W.heap.size 1 A n (svs l)) => tlist_any l A n c W h hn)
  have HR := hide hR
  clear hR hs
  obtain ⟨C, hC⟩ : ∃ C, envChk l = C := ⟨_, rfl⟩
  obtain ⟨F, hF⟩ : ∃ F, formsP nm vl = F := ⟨_, rfl⟩
  rw [hC] at XR
  rw [hF] at XF
  cases C with
  | false =>
    rw [set_no (by rw [hC]; rfl)]
    clear hC hF
    generalize readS l = RS at *
    go_enter Tryz.func8, Tryz.ntmps8
    go_wp2_with fail
    refine XR.out.mono ?_
    rintro e w1 ⟨A1, n1, c1, rfl, _, _, hb⟩
    have HB := hide hb
    replace HR := hide (rb HR.out hb)
    clear hb XR
    go_wp2_with fail
    refine (XL.out _ HR.out).mono ?_
    rintro e w2 ⟨A2, c2, rfl, hO, hb⟩
    have HO := hide (own_more hO HB.out.size)
    have HB2 := hide (below_more HB.out (Nat.le_refl _) hb)
    clear hb hO
    go_wp2_with fail
    refine bodyPost_ret (v := .tuple #[.slice A2 n c2, .int .i64 2]) (by simp only [results, Tryz.results8]; go_simp) rfl ⟨A2, n, c2, rfl, HO.out, HB2.out⟩
  | true =>
    cases F with
    | false =>
      rw [set_no (by rw [hC, hF]; rfl)]
      clear hC hF
      generalize readS l = RS at *
      go_enter Tryz.func8, Tryz.ntmps8
      go_wp2_with fail
      refine XR.out.mono ?_
      rintro e w1 ⟨A1, n1, c1, rfl, _, _, hb⟩
      have HB := hide hb
      replace HR := hide (rb HR.out hb)
      clear hb XR
      go_wp2_with fail
      refine (XF.out _).mono ?_
      rintro e w5 ⟨rfl, hb⟩
      replace HB := hide (below_more HB.out (Nat.le_refl _) hb)
      replace HR := hide (rb HR.out hb)
      clear hb XF
      go_wp2_with fail
      refine (XL.out _ HR.out).mono ?_
      rintro e w2 ⟨A2, c2, rfl, hO, hb⟩
      have HO := hide (own_more hO HB.out.size)
      have HB2 := hide (below_more HB.out (Nat.le_refl _) hb)
      clear hb hO
      go_wp2_with fail
      refine bodyPost_ret (v := .tuple #[.slice A2 n c2, .int .i64 2]) (by simp only [results, Tryz.results8]; go_simp) rfl ⟨A2, n, c2, rfl, HO.out, HB2.out⟩
    | true =>
      obtain ⟨g1, g2, g3, g4, g5⟩ := pairs_of hC
      rw [readS_yes hC] at XR
      have hcf : (envChk l && formsP nm vl) = true := by rw [hC, hF]; rfl
      have HSH := hide (pairs_short (l := l))
      have HK := hide (notK_le nm (pairsOf l))
      have HSRT := hide g2
      have hl32 : (pairsOf l).length ≤ 32 := by omega
      by_cases h32 : (notK nm (pairsOf l)).length = 32
      · rw [set_full hcf h32]
        have H32 := hide h32
        clear hC hF hcf g1 g2 g3 g4 g5 h32
        generalize pairsOf l = S at *
        go_enter Tryz.func8, Tryz.ntmps8
        go_wp2_with fail
        refine XR.out.mono ?_
        rintro e w1 ⟨A1, n1, c1, rfl, hO, hn1, hb⟩
        have HB := hide hb
        have HO1 := hide hO.rd
        replace HR := hide (rb HR.out hb)
        clear hb XR hO
        go_wp2_with fail
        refine (XF.out _).mono ?_
        rintro e w5 ⟨rfl, hb⟩
        replace HB := hide (below_more HB.out (Nat.le_refl _) hb)
        replace HR := hide (rb HR.out hb)
        replace HO1 := hide (HO1.out.below hb)
        clear hb XF
        go_wp2_with fail
        refine (ewithout_any S nm A1 n1 c1 _ HO1.out (by omega)).mono ?_
        rintro e w6 ⟨A6, n6, c6, rfl, hO, hb⟩
        replace HB := hide (below_more HB.out (Nat.le_refl _) hb)
        replace HR := hide (rb HR.out hb)
        obtain rfl : n6 = 32 := by have := hO.rd.len; rw [H32.out] at this; exact this.symm
        clear hb hO
        go_wp2_with fail
        refine (XL.out _ HR.out).mono ?_
        rintro e w2 ⟨A2, c2, rfl, hO, hb⟩
        have HO := hide (own_more hO HB.out.size)
        have HB2 := hide (below_more HB.out (Nat.le_refl _) hb)
        clear hb hO
        go_wp2_with fail
        refine bodyPost_ret (v := .tuple #[.slice A2 n c2, .int .i64 4]) (by simp only [results, Tryz.results8]; go_simp) rfl ⟨A2, n, c2, rfl, HO.out, HB2.out⟩
      · rw [set_yes hcf h32]
        have H32 := hide h32
        clear hC hF hcf g1 g2 g3 g4 g5 h32
        generalize pairsOf l = S at *
        have HINS : Hid (∀ q ∈ insS S (nm, vl), q.1.length ≤ 100000 ∧ q.2.length ≤ 100000) := hide (fun q hq => by
          rcases ins_len S (nm, vl) q hq with rfl | hq
          · exact ⟨h1, h2⟩
          · have := HSH.out q hq; omega)
        go_enter Tryz.func8, Tryz.ntmps8
        go_wp2_with fail
        refine XR.out.mono ?_
        rintro e w1 ⟨A1, n1, c1, rfl, hO, hn1, hb⟩
        have HB := hide hb
        have HO1 := hide hO.rd
        replace HR := hide (rb HR.out hb)
        clear hb XR hO
        go_wp2_with fail
        refine (XF.out _).mono ?_
        rintro e w5 ⟨rfl, hb⟩
        replace HB := hide (below_more HB.out (Nat.le_refl _) hb)
        replace HR := hide (rb HR.out hb)
        replace HO1 := hide (HO1.out.below hb)
        clear hb XF
        go_wp2_with fail
        refine (ewithout_any S nm A1 n1 c1 _ HO1.out (by omega)).mono ?_
        rintro e w6 ⟨A6, n6, c6, rfl, hO, hb⟩
        have HO6 := hide (hO.more HB.out.size)
        replace HB := hide (below_more HB.out (Nat.le_refl _) hb)
        have hl6 := hO.rd.len
        have h32 := H32.out
        have hz : ((n6 : Int) == 32) = false := beq_eq_false_iff_ne.2 (by omega)
        have hn6 : n6 ≤ 32 := by have := HK.out; omega
        have HL6 := hide hl6
        clear hb hO hl6 h32
        have hr1 := one_set (x := (nm, vl)) (Blk.new w6 46 #[.string ⟨nm.toArray⟩, .string ⟨vl.toArray⟩])
        have hO2 := World.ownsRow.alloc HO6.out (.cells #[.string ⟨nm.toArray⟩, .string ⟨vl.toArray⟩] 46)
        have hsz := HB.out.size
        go_wp2_with (at_builtin; (refine wpList_append_any _ rfl (.tmp 33) (.tmp 37) 42 rfl w.heap.size 46 i0 _ 2 32 Tryz.underlying42 hi0 hz0 hz1 hz2 rfl (by omega) (.slice A6 n6 c6) n6 (pss (notK nm S)) rfl hO2 _ (some ⟨w6.heap.size, 0, none⟩) 1 1 (pss [(nm, vl)]) rfl hr1 (pss_one _) ?c1 ?c2 ?c3 ?_))
        case c1 => unfold maxLen; omega
        case c2 => omega
        case c3 => simp; omega
        intro v1 w7 hown1 hg1 hat1
        obtain ⟨A7, c7, rfl⟩ := own_slice hown1
        rw [← pss_append] at hown1
        have HO7 : Hid (OwS w.heap.size w7 A7 (n6 + 1) c7 (notK nm S ++ [(nm, vl)])) := hide hown1
        have HB7 : Hid (Below w.heap.size w w7) := hide ((HB.out.alloc hsz _).grown hg1 (by simp; omega) (fun g hg => (World.ownsRow.lt HO6.out g hg).1))
        clear hown1 hg1 hat1 hr1 hO2
        go_wp2_with fail
        refine (sort_any _ A7 (n6 + 1) c7 w7 HO7.out (by omega) (by omega) HB7.out.size).mono ?_
        rintro e w8 ⟨rfl, d', p1, p2, hrd, hb⟩
        have hd := sort_ins HSRT.out (nm, vl) p1 p2
        rw [hd] at hrd
        have HRD := hide hrd
        replace HB := hide (HB7.out.trans hb)
        clear hd hrd hb p1 p2
        go_wp2_with fail
        refine (texts_any _ HINS.out A7 (n6 + 1) c7 w8 HRD.out (by omega)).mono ?_
        rintro e w9 ⟨A9, n9, c9, rfl, hO, hb⟩
        have HO := hide (own_more hO HB.out.size)
        have HB2 := hide (below_more HB.out (Nat.le_refl _) hb)
        clear hb hO
        go_wp2_with fail
        refine bodyPost_ret (v := .tuple #[.slice A9 n9 c9, .int .i64 0]) (by simp only [results, Tryz.results8]; go_simp) rfl ⟨A9, n9, c9, rfl, HO.out, HB2.out⟩
set_option maxRecDepth 100000 in
set_option maxHeartbeats 8000000 in
theorem unset_any (l : List LB) (hs : ∀ s ∈ l, s.length ≤ 100000) (nm : LB) (A : Option Addr) (n c : Nat) (w : World) (hR : Reads w w.heap.size 1 A n (svs l)) (hn : n ≤ 1000000) :
    Calls Tryz.prog 13 #[.slice A n c, .string ⟨nm.toArray⟩] w fun e w' => ∃ A' n' c', e = .returned (.slice A' n' c') ∧ Ow w.heap.size w' A' n' c' (unsE l nm) ∧ Below w.heap.size w w' := by
  have XR := hide (read_any l (fun s h => by have := hs s h; omega) A n c w hR hn)
  have XL := hide (fun W (h : Reads W W.heap.size 1 A n (svs l)) => tlist_any l A n c W h hn)
  have HR := hide hR
  clear hR hs
  obtain ⟨C, hC⟩ : ∃ C, envChk l = C := ⟨_, rfl⟩
  rw [hC] at XR
  cases C with
  | false =>
    rw [show unsE l nm = l by unfold unsE; rw [hC]; rfl]
    clear hC
    generalize readS l = RS at *
    go_enter Tryz.func13, Tryz.ntmps13
    go_wp2_with fail
    refine XR.out.mono ?_
    rintro e w1 ⟨A1, n1, c1, rfl, _, _, hb⟩
    have HB := hide hb
    replace HR := hide (rb HR.out hb)
    clear hb XR
    go_wp2_with fail
    refine (XL.out _ HR.out).mono ?_
    rintro e w2 ⟨A2, c2, rfl, hO, hb⟩
    have HO := hide (own_more hO HB.out.size)
    have HB2 := hide (below_more HB.out (Nat.le_refl _) hb)
    clear hb hO
    go_wp2_with fail
    go_ret
    first | exact ⟨A2, n, c2, rfl, HO.out, HB2.out⟩ | exact ⟨A2, ⟨n, c2, rfl⟩, HO.out, HB2.out⟩ | exact ⟨A2, n, ⟨c2, rfl⟩, HO.out, HB2.out⟩
  | true =>
    rw [show unsE l nm = (notK nm (pairsOf l)).map textS by unfold unsE; rw [hC]; rfl]
    rw [readS_yes hC] at XR
    have HSH : Hid (∀ q ∈ notK nm (pairsOf l), q.1.length ≤ 100000 ∧ q.2.length ≤ 100000) := hide (fun q hq => by
      have := pairs_short (l := l) q (List.mem_filter.1 hq).1
      omega)
    have HK := hide (notK_le nm (pairsOf l))
    clear hC
    generalize pairsOf l = S at *
    go_enter Tryz.func13, Tryz.ntmps13
    go_wp2_with fail
    refine XR.out.mono ?_
    rintro e w1 ⟨A1, n1, c1, rfl, hO, hn1, hb⟩
    have HB := hide hb
    have HO1 := hide hO.rd
    clear hb XR hO
    go_wp2_with fail
    refine (ewithout_any S nm A1 n1 c1 _ HO1.out (by omega)).mono ?_
    rintro e w6 ⟨A6, n6, c6, rfl, hO, hb⟩
    have HO6 := hide hO.rd
    replace HB := hide (below_more HB.out (Nat.le_refl _) hb)
    have hn6 : n6 ≤ 100000 := by have a1 := hO.rd.len; have a2 := HK.out; have a3 := HO1.out.len; omega
    clear hb hO
    go_wp2_with fail
    refine (texts_any _ HSH.out A6 n6 c6 _ HO6.out hn6).mono ?_
    rintro e w9 ⟨A9, n9, c9, rfl, hO, hb⟩
    have HO := hide (own_more hO HB.out.size)
    have HB2 := hide (below_more HB.out (Nat.le_refl _) hb)
    clear hb hO
    go_wp2_with fail
    go_ret
    first | exact ⟨A9, n9, c9, rfl, HO.out, HB2.out⟩ | exact ⟨A9, ⟨n9, c9, rfl⟩, HO.out, HB2.out⟩ | exact ⟨A9, n9, ⟨c9, rfl⟩, HO.out, HB2.out⟩
end Go.Proofs.YtaibmfahfkoahaaGreat
