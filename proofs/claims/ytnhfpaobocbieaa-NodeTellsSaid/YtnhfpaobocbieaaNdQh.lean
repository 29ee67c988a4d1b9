/- The document's Parent, Where, All and New; Same at a root. -/
import Derived.Test.YtnhfpaobocbieaaNdQg
namespace Go.Proofs.Ytnhfpaobocbieaa
open Go.RowKit
set_option linter.unusedVariables false
theorem int_cell {w : World} {B n : Nat} {A : Option Addr} {zs : List Int} (h : Reads w B 1 A n (iv zs)) {k : Nat} {z : Int} (hx : zs[k]? = some z) : ∃ g o, A = some ⟨g, o, none⟩ ∧ g < B ∧ w.cell? ⟨g, o + k, none⟩ = some (.int .i64 z) := by
  obtain ⟨hk, e⟩ := List.getElem?_eq_some_iff.1 hx
  have hn : zs.length = n := by have := h.1; rw [iv_length] at this; omega
  obtain ⟨g, o, rfl, hg, hc⟩ := cells_of h (by omega) (by rw [iv_length]; omega)
  exact ⟨g, o, rfl, hg, hc k _ (iv_at hx)⟩
set_option maxRecDepth 100000 in
set_option maxHeartbeats 8000000 in
theorem rparent_any (L : Option Addr) (n c : Nat) (l : List DV) (m : Int) (w : World) (hF : FsR w w.heap.size L n l) (hB : FewB l) :
    Calls Try.prog 13 #[.agg #[.slice L n c], .int .i64 m] w fun e w' => e = .returned (.tuple #[.int .i64 (parentP (nds l) m).1, .string ⟨(parentP (nds l) m).2.1.toArray⟩, .bool (parentP (nds l) m).2.2]) ∧ Below w.heap.size w w' := by
  have HX : Hid (Blk (w.alloc (.cells #[.slice L n c] 24)) w.heap.size 24 #[.slice L n c]) := hide (Blk.new w _ _)
  have HB : Hid (Below w.heap.size w (w.alloc (.cells #[.slice L n c] 24))) := hide (on_alloc _ _)
  have XD := hide (rfind_any L n c l m (w.alloc (.cells #[.slice L n c] 24)) ((hF.below HB.out).more HB.out.size) hB)
  have HQB := hide (fun (h : checkB (nds l) = true) => wk_bound hB h)
  obtain ⟨P, hP⟩ : ∃ P, parentP (nds l) m = P := ⟨_, rfl⟩
  rw [hP]
  have HP : Hid (P = (pDir (fndR (nds l) m), pName (fndR (nds l) m), (fndR (nds l) m).isSome)) := hide (by rw [← hP, parent_of])
  clear hF hB hP
  have k0 := one_ HX.out
  go_enter Try.func13, Try.ntmps13
  go_wp2_with fail
  refine XD.out.mono ?_
  rintro e w3 ⟨gw, r, rfl, hb, hcase⟩
  have HB3 := hide (HB.out.trans (hb.mono HB.out.size))
  clear hb XD k0 HX HB
  rcases hcase with ⟨rfl, hf⟩ | ⟨i, x, rfl, hf, hx, hws⟩
  · have hPe : P = (0, [], false) := by rw [HP.out, hf]; rfl
    subst hPe
    clear hf
    go_wp2_with fail
    refine bodyPost_ret (v := .tuple #[.int .i64 0, .string ⟨#[]⟩, .bool false]) (by simp only [results, Try.results13]; go_simp) rfl ⟨rfl, HB3.out⟩
  · have hPe : P = (x.dir, x.name, true) := by rw [HP.out, hf]; rfl
    subst hPe
    obtain ⟨A1, c1, A2, c2, A3, c3, A4, c4, hR⟩ := hws
    have hil := (List.getElem?_eq_some_iff.1 hx).1
    obtain ⟨g1, o1, rfl, hg1, d1⟩ := int_cell (k := i) (z := x.dir) (Reads.of_own hR.r1) (by rw [List.getElem?_map, hx]; rfl)
    obtain ⟨g2, o2, rfl, hg2, d2⟩ := row_cell (k := i) (x := x.name) (Ow.rd hR.r2) (by rw [List.getElem?_map, hx]; rfl)
    have e1 := hR.box.cell 1
    have e2 := hR.box.cell 2
    have el := hR.box.lt
    simp only [List.getElem?_toArray, List.getElem?_cons_succ, List.getElem?_cons_zero] at e1 e2
    obtain ⟨q, hq⟩ : ∃ q, (WK (nds l)).length = q := ⟨_, rfl⟩
    rw [hq] at hil e1 e2
    have hi1 : ¬ ((i : Int) < 0) := by omega
    have hi0 : (0 : Int) ≤ (i : Int) := by omega
    have hiq : (i : Int) < (q : Int) := by omega
    clear hf hx hR hq
    go_wp2_with fail
    go_quiet (fail)
    go_wp2_with fail
    refine bodyPost_ret (v := .tuple #[.int .i64 x.dir, .string ⟨x.name.toArray⟩, .bool true]) (by simp only [results, Try.results13]; go_simp) rfl ⟨rfl, bl_drewN HB3.out⟩
set_option maxRecDepth 100000 in
set_option maxHeartbeats 8000000 in
theorem rwhere_any (L : Option Addr) (n c : Nat) (l : List DV) (m : Int) (w : World) (hF : FsR w w.heap.size L n l) (hB : FewB l) :
    Calls Try.prog 15 #[.agg #[.slice L n c], .int .i64 m] w fun e w' => e = .returned (.tuple #[.string ⟨(whereP (nds l) m).1.toArray⟩, .bool (whereP (nds l) m).2]) ∧ Below w.heap.size w w' := by
  have HX : Hid (Blk (w.alloc (.cells #[.slice L n c] 24)) w.heap.size 24 #[.slice L n c]) := hide (Blk.new w _ _)
  have HB : Hid (Below w.heap.size w (w.alloc (.cells #[.slice L n c] 24))) := hide (on_alloc _ _)
  have XD := hide (rfind_any L n c l m (w.alloc (.cells #[.slice L n c] 24)) ((hF.below HB.out).more HB.out.size) hB)
  have XC := hide (fun (V : World) (hV : Below w.heap.size w V) => rcheck_any L n c l V ((hF.below hV).more hV.size) hB)
  obtain ⟨P, hP⟩ : ∃ P, whereP (nds l) m = P := ⟨_, rfl⟩
  rw [hP]
  have HP : Hid (P = if m = 0 ∧ checkB (nds l) = true then ([47], true) else (wText (fndR (nds l) m), (fndR (nds l) m).isSome)) := hide (by rw [← hP, where_of])
  clear hF hB hP
  have k0 := one_ HX.out
  go_enter Try.func15, Try.ntmps15
  go_wp2_with fail
  refine XD.out.mono ?_
  rintro e w3 ⟨gw, r, rfl, hb, hcase⟩
  have HX := hide (HX.out.below hb HX.out.lt)
  have HB3 := hide (HB.out.trans (hb.mono HB.out.size))
  have HCASE := hide hcase
  clear hb XD k0 HB hcase
  have k0 := one_ HX.out
  by_cases hm0 : m = 0
  · have hmb : (m == 0) = true := beq_iff_eq.2 hm0
    have HM0 := hide hm0
    clear hm0
    go_wp2_with fail
    refine (XC.out _ HB3.out).mono ?_
    rintro e w4 ⟨rfl, hb⟩
    have HB4 := hide (HB3.out.trans (hb.mono HB3.out.size))
    cases hck : checkB (nds l) with
    | true =>
      have hPe : P = ([47], true) := by rw [HP.out, if_pos ⟨HM0.out, hck⟩]
      subst hPe
      clear hck hb
      go_wp2_with fail
      refine bodyPost_ret (v := .tuple #[.string ⟨#[47]⟩, .bool true]) (by simp only [results, Try.results15]; go_simp) rfl ⟨rfl, HB4.out⟩
    | false =>
      have hf : fndR (nds l) m = none := by unfold fndR; rw [if_neg (by rw [hck]; simp)]
      have hPe : P = ([], false) := by rw [HP.out, if_neg (by rw [hck]; simp), hf]; rfl
      subst hPe
      rcases HCASE.out with ⟨rfl, _⟩ | ⟨i, x, rfl, hf2, _, _⟩
      · clear hck hb hf
        go_wp2_with fail
        refine bodyPost_ret (v := .tuple #[.string ⟨#[]⟩, .bool false]) (by simp only [results, Try.results15]; go_simp) rfl ⟨rfl, HB4.out⟩
      · rw [hf] at hf2; cases hf2
  · have hmb : (m == 0) = false := beq_eq_false_iff_ne.2 hm0
    rcases HCASE.out with ⟨rfl, hf⟩ | ⟨i, x, rfl, hf, hx, hws⟩
    · have hPe : P = ([], false) := by rw [HP.out, if_neg (fun h => hm0 h.1), hf]; rfl
      subst hPe
      clear hf hm0 HCASE
      go_wp2_with fail
      refine bodyPost_ret (v := .tuple #[.string ⟨#[]⟩, .bool false]) (by simp only [results, Try.results15]; go_simp) rfl ⟨rfl, HB3.out⟩
    · have hPe : P = (pathP x, true) := by rw [HP.out, if_neg (fun h => hm0 h.1), hf]; rfl
      subst hPe
      obtain ⟨A1, c1, A2, c2, A3, c3, A4, c4, hR⟩ := hws
      have hil := (List.getElem?_eq_some_iff.1 hx).1
      obtain ⟨g3, o3, rfl, hg3, d3⟩ := row_cell (k := i) (x := pathP x) (Ow.rd hR.r3) (by rw [List.getElem?_map, hx]; rfl)
      have e3 := hR.box.cell 3
      have el := hR.box.lt
      simp only [List.getElem?_toArray, List.getElem?_cons_succ, List.getElem?_cons_zero] at e3
      obtain ⟨q, hq⟩ : ∃ q, (WK (nds l)).length = q := ⟨_, rfl⟩
      rw [hq] at hil e3
      obtain ⟨T, hT⟩ : ∃ T, pathP x = T := ⟨_, rfl⟩
      rw [hT] at d3
      have hi1 : ¬ ((i : Int) < 0) := by omega
      have hi0 : (0 : Int) ≤ (i : Int) := by omega
      have hiq : (i : Int) < (q : Int) := by omega
      have HT := hide hT
      clear hf hx hR hq hm0 HCASE hT
      go_wp2_with fail
      refine bodyPost_ret (v := .tuple #[.string ⟨T.toArray⟩, .bool true]) (by simp only [results, Try.results15]; go_simp) rfl ⟨by rw [HT.out], HB3.out⟩
set_option maxRecDepth 100000 in
set_option maxHeartbeats 8000000 in
theorem rall_any (L : Option Addr) (n c : Nat) (l : List DV) (w : World) (hF : FsR w w.heap.size L n l) (hB : FewB l) :
    Calls Try.prog 20 #[.agg #[.slice L n c]] w (AllEnd (nds l) w) := by
  have hl := hF.len
  have hln : (nds l).length = n := by rw [nds_length, hl]
  obtain ⟨W1, hW1⟩ : ∃ W, w.alloc (.cells #[.slice L n c] 24) = W := ⟨_, rfl⟩
  have b1 : Below w.heap.size w W1 := by rw [← hW1]; exact on_alloc _ _
  have HK : Hid (Blk W1 w.heap.size 24 #[.slice L n c]) := hide (by rw [← hW1]; exact Blk.new w _ _)
  have HB := hide b1
  have HFS := hide (fun (V : World) (hV : Below w.heap.size w V) => hF.below hV)
  have HFEW := hide hB
  have HLN := hide hln
  have XC := hide (rcheck_any L n c l W1 ((hF.below b1).more b1.size) hB)
  obtain ⟨P, hP⟩ : ∃ P, allP (nds l) = P := ⟨_, rfl⟩
  have HP := hide hP
  have HEND : Hid (∀ (A : Option Addr) (m c : Nat) (w' : World), Ow w.heap.size w' A m c P → Below w.heap.size w w' → AllEnd (nds l) w (.returned (.slice A m c)) w') := hide (fun A m c w' h1 h2 => ⟨A, m, c, rfl, by rw [hP]; exact h1, h2⟩)
  obtain ⟨i0, hi, hz0, hz1, hz2⟩ := info_parts infoStr
  have k0 := one_ HK.out
  clear hF hB hl hln b1 hP
  go_enter Try.func20, Try.ntmps20
  go_wp2_with fail
  refine XC.out.mono ?_
  rintro e w3 ⟨rfl, hb⟩
  have HK := hide (HK.out.below hb HK.out.lt)
  have HB := hide (HB.out.trans (hb.mono HB.out.size))
  clear hb XC k0 hW1
  have k0 := one_ HK.out
  cases hck : checkB (nds l) with
  | false =>
    have hPe : P = [] := by rw [← HP.out]; unfold allP; rw [if_pos hck]
    subst hPe
    clear hck
    go_wp2_with fail
    go_ret
    exact HEND.out _ _ _ _ (Ow.none_ _ _) HB.out
  | true =>
    have HCK := hide hck
    clear hck
    obtain ⟨W4, hW4⟩ : ∃ W, w3.alloc (.cells #[.slice L n c, .slice none 0 0, .slice none 0 0, .slice none 0 0, .slice none 0 0] 71) = W := ⟨_, rfl⟩
    have b4 : Below w3.heap.size w3 W4 := by rw [← hW4]; exact on_alloc _ _
    have k4 : Blk W4 w3.heap.size 71 #[.slice L n c, .slice none 0 0, .slice none 0 0, .slice none 0 0, .slice none 0 0] := by rw [← hW4]; exact Blk.new w3 _ _
    have HB4 := hide (HB.out.trans (b4.mono HB.out.size))
    have HWB : Hid ((WK (nds l)).length ≤ 100000) := hide (wk_bound HFEW.out HCK.out)
    have hcf := checkB_facts HCK.out
    have XW := hide (rwalk_any (B0 := w.heap.size) (B := w.heap.size) (gw := w3.heap.size) (n := n) (c := c) (L := L) (l := l) hcf.2.2.2.2.2.1 HFEW.out.each (Nat.le_refl _) HB.out.size n 0 [] [] [] W4 (by have h := hcf.2.2.2.2.2.2; rwa [HLN.out] at h) (by have := hcf.1; have := HLN.out; omega) rfl (by have h1 := HFEW.out.n; have h2 := HLN.out; rw [nds_length] at h2; simp; omega) (by have h := HWB.out; unfold WK at h; rw [HLN.out] at h; simpa using h) (HFS.out _ HB4.out) (ws_new k4 HB4.out.size))
    have HWKE : Hid (wk (nds l) n [] 0 = WK (nds l)) := hide (by unfold WK; rw [HLN.out])
    rw [show ((0 : Nat) : Int) = 0 from rfl, show ([] ++ wk (nds l) n [] 0 : List ST) = WK (nds l) from HWKE.out] at XW
    clear hcf HWKE b4 k4
    go_wp2_with fail
    with_reducible refine XW.out.mono ?_
    rintro e w5 ⟨rfl, hws, hb⟩
    have HB5 := hide (HB4.out.trans hb)
    obtain ⟨A1, c1, A2, c2, A3, c3, A4, c4, hR⟩ := hws
    obtain ⟨q, hq⟩ : ∃ q, (WK (nds l)).length = q := ⟨_, rfl⟩
    have hqb : q ≤ 100000 := by rw [← hq]; exact HWB.out
    rw [hq] at hR
    have hbx := hR.box.alloc (.cells #[.string ⟨#[47]⟩] 9)
    have e3 := hbx.cell 3
    have el := hbx.lt
    have el2 := hR.box.lt
    have e3' := hR.box.cell 3
    simp only [List.getElem?_toArray, List.getElem?_cons_succ, List.getElem?_cons_zero] at e3 e3'
    have hr3 : Reads (w5.alloc (.cells #[.string ⟨#[47]⟩] 9)) (w5.heap.size + 1) 1 A3 q (svs ((WK (nds l)).map pathP)) := ((Ow.rd hR.r3).alloc (Nat.le_refl _) _).more (by omega)
    have hO1 : (w5.alloc (.cells #[.string ⟨#[47]⟩] 9)).ownsRow w.heap.size 9 1 (.slice (some ⟨w5.heap.size, 0, none⟩) 1 1) 1 (svs [[47]]) := (Blk.new w5 9 #[.string ⟨#[47]⟩]).own HB5.out.size (by unfold maxLen; omega) rfl
    have HPE : Hid (P = [[47]] ++ (WK (nds l)).map pathP) := hide (by rw [← HP.out, all_true HCK.out]; rfl)
    have hsz := HB5.out.size
    clear hb XW hR hq hbx hW4
    go_wp2_with (at_builtin; (refine wpList_append_any _ rfl (.tmp 12) (.tmp 16) 32 rfl w.heap.size 9 i0 _ 1 16 Try.underlying32 hi hz0 hz1 hz2 rfl (by omega) (.slice (some ⟨w5.heap.size, 0, none⟩) 1 1) 1 (svs [[47]]) rfl hO1 (w5.heap.size + 1) A3 q c3 (svs ((WK (nds l)).map pathP)) rfl hr3 (svs_one _) ?u1 ?u2 ?u3 ?_))
    case u1 => unfold maxLen; omega
    case u2 => omega
    case u3 => simp; omega
    intro v1 w6 hown1 hg1 hat1
    obtain ⟨A6, c6, rfl⟩ := own_slice hown1
    have HO6 : Hid (Ow w.heap.size w6 A6 (1 + q) c6 P) := hide (by rw [HPE.out]; unfold Ow; rw [svs_append]; exact hown1)
    have HB6 : Hid (Below w.heap.size w w6) := hide ((HB5.out.alloc hsz (.cells #[.string ⟨#[47]⟩] 9)).grown hg1 (by simp; omega) (fun g hg => (World.ownsRow.lt hO1 g hg).1))
    clear hown1 hg1 hat1 hr3 hO1 e3 e3' el el2 k0
    go_wp2_with fail
    go_ret
    exact HEND.out _ _ _ _ HO6.out HB6.out
end Go.Proofs.Ytnhfpaobocbieaa
