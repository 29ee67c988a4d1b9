/- The document's Link and Unlink. -/
import Derived.Test.YtlcoapignfmgcaaGreatDoorNsC
namespace Go.Proofs.YtlcoapignfmgcaaGreatDoor
open Go.RowKit
set_option linter.unusedVariables false
theorem smallG {B C : Nat} {w : World} {L : Option Addr} {n c : Nat} {X l : List DV} (hO : OG B C w L n c X) (hB : FewB l) (hR : nds X = nds l) (h : checkB (nds l) = true) : Okay X := fun x hx => by
  have h1 : x.r ∈ nds l := by rw [← hR]; unfold nds; exact List.mem_map.2 ⟨x, hx, rfl⟩
  obtain ⟨y, hy, hyr⟩ : ∃ y ∈ l, y.r = x.r := by unfold nds at h1; exact List.mem_map.1 h1
  have h2 := (hB.each y hy).n
  have h3 := (hO.ok x hx).nl
  have h4 := links_small h (names_few hB) x.r h1
  rw [hyr] at h2
  omega
theorem nd_atA {A : Option Addr} {g1 o : Nat} (hA : A = some ⟨g1, o, none⟩) (m k q : Nat) (i : Int) (hi : i = (q : Int)) (hq : q < m) (W : World) : (Instr.indexAt 22 (.slice A m k) (.int .i64 i)).run Tryz.prog W = .ok (.pointer (some ⟨g1, o + q * 6, none⟩)) W := by
  subst hA
  exact nd_at g1 o m k q i hi hq W
theorem at_lk {l : List ND} {d : Int} {s : List UInt8} (hs : sortedP (ndAt l d).names) :
    (∃ y, atP (ndAt l d).names s = (findP (ndAt l d).names s : Int) ∧ (ndAt l d).names[findP (ndAt l d).names s]? = some y ∧ lkP l d s = (y.node, true)) ∨ (atP (ndAt l d).names s = -1 ∧ lkP l d s = (0, false)) := by
  unfold atP
  rcases lk_found hs with ⟨h1, y, h2, h3⟩ | ⟨h1, h2⟩
  · exact .inl ⟨y, by rw [h1]; rfl, h2, h3⟩
  · exact .inr ⟨by rw [h1]; rfl, h2⟩
section
variable {l : List ND} {k d : Int} {s : List UInt8}
theorem li_0 (h : hasP l [k, d] = false) : linkP l k d s = (l, 2) := by
  unfold linkP
  rw [h]
  rfl
theorem li_1 (h : hasP l [k, d] = true) (hk : (ndAt l k).kind = 2) : linkP l k d s = (l, 23) := by
  unfold linkP
  rw [h, if_pos rfl, if_pos hk]
theorem li_2 (h : hasP l [k, d] = true) (hk : (ndAt l k).kind ≠ 2) {E : Int} (hE : nameC s = E) (h0 : E ≠ 0) : linkP l k d s = (l, E) := by
  unfold linkP
  rw [h, if_pos rfl, if_neg hk]
  simp [firstP, hE, h0]
theorem li_3 (h : hasP l [k, d] = true) (hk : (ndAt l k).kind ≠ 2) (hn : nameC s = 0) {E : Int} (hE : writableP l d = E) (h0 : E ≠ 0) : linkP l k d s = (l, E) := by
  unfold linkP
  rw [h, if_pos rfl, if_neg hk]
  simp [firstP, hn, hE, h0]
theorem li_4 (h : hasP l [k, d] = true) (hk : (ndAt l k).kind ≠ 2) (hn : nameC s = 0) (hw : writableP l d = 0) {i : Int} (hl : lkP l d s = (i, true)) : linkP l k d s = (l, 21) := by
  unfold linkP
  rw [h, if_pos rfl, if_neg hk]
  simp [firstP, hn, hw, absentP, hl]
theorem li_5 (h : hasP l [k, d] = true) (hk : (ndAt l k).kind ≠ 2) (hn : nameC s = 0) (hw : writableP l d = 0) {i : Int} (hl : lkP l d s = (i, false)) : linkP l k d s = (insP l d s k, 0) := by
  unfold linkP
  rw [h, if_pos rfl, if_neg hk]
  simp [firstP, hn, hw, absentP, hl]
theorem un_0 (h : hasP l [d] = false) : unlinkP l d s = (l, 2) := by
  unfold unlinkP
  rw [h]
  rfl
theorem un_1 (h : hasP l [d] = true) {E : Int} (hE : writableP l d = E) (h0 : E ≠ 0) : unlinkP l d s = (l, E) := by
  unfold unlinkP
  rw [h, if_pos rfl, hE, if_neg h0]
theorem un_2 (h : hasP l [d] = true) (hw : writableP l d = 0) {i : Int} (hl : lkP l d s = (i, false)) : unlinkP l d s = (l, 20) := by
  unfold unlinkP
  rw [h, if_pos rfl, hw, if_pos rfl, hl]
  rfl
theorem un_3 (h : hasP l [d] = true) (hw : writableP l d = 0) {i : Int} (hl : lkP l d s = (i, true)) (hn : (ndAt l i).names ≠ []) : unlinkP l d s = (l, 26) := by
  unfold unlinkP
  rw [h, if_pos rfl, hw, if_pos rfl, hl]
  simp [hn]
theorem un_4 (h : hasP l [d] = true) (hw : writableP l d = 0) {i : Int} (hl : lkP l d s = (i, true)) (hn : (ndAt l i).names = []) : unlinkP l d s = (remP l d s, 0) := by
  unfold unlinkP
  rw [h, if_pos rfl, hw, if_pos rfl, hl]
  simp [hn]
end
set_option maxRecDepth 100000 in
set_option maxHeartbeats 16000000 in
theorem rlink_c (L : Option Addr) (n c : Nat) (X : List DV) (k d : Int) (s : List UInt8) (w : World) (hF : FsR w w.heap.size L n X) (hB : FewB X) (hsl : s.length ≤ 1000000) :
    Calls Tryz.prog 12 #[.agg #[.slice L n c], .int .i64 k, .int .i64 d, .string ⟨s.toArray⟩] w (RefEnd w (linkP (nds X) k d s).1 [.int .i64 (linkP (nds X) k d s).2]) := by
  have hl := hF.len
  have hln : (nds X).length = n := by rw [nds_length, hl]
  obtain ⟨W1, hW1⟩ : ∃ W, (w.alloc (.cells #[.slice L n c] 24)).alloc (.cells #[.slice none 0 0] 24) = W := ⟨_, rfl⟩
  have HX : Hid (Blk W1 w.heap.size 24 #[.slice L n c]) := hide (by rw [← hW1]; exact (Blk.new w _ _).alloc _)
  have HY : Hid (Blk W1 (w.heap.size + 1) 24 #[.slice none 0 0]) := hide (by rw [← hW1]; have := Blk.new (w.alloc (.cells #[.slice L n c] 24)) 24 #[.slice none 0 0]; simpa only [World.size_alloc] using this)
  have b1 : Below w.heap.size w W1 := by rw [← hW1]; exact (on_alloc w _).trans ((on_alloc _ _).mono (by simp))
  have HF := hide (fun (W : World) (hW : Below w.heap.size w W) => (hF.below hW).more hW.size)
  have HHI := hide (fun (x : DV) (hx : x ∈ X) => hi_of (hF.ok x hx).d)
  have HFW := hide hB
  have HB := hide b1
  have HLN := hide hln
  have XK := hide (rknown_c L n c X k d W1 (HF.out W1 b1) hB)
  obtain ⟨hk, hhk⟩ : ∃ b, hasP (nds X) [k, d] = b := ⟨_, rfl⟩
  rw [hhk] at XK
  have HH := hide hhk
  obtain ⟨T, hT⟩ : ∃ T, linkP (nds X) k d s = T := ⟨_, rfl⟩
  have HT := hide hT
  rw [hT]
  have k0 := one_ HX.out
  clear hF hB b1 hl hln hhk hT
  go_enter Tryz.func12, Tryz.ntmps12
  go_wp2_with (rw [hW1])
  refine XK.out.mono ?_
  rintro e w2 ⟨rfl, hb2⟩
  have HX2 := hide (HX.out.below hb2 HX.out.lt)
  have HY2 := hide (HY.out.below hb2 HY.out.lt)
  have HB2 := hide (HB.out.trans (hb2.mono HB.out.size))
  clear hb2 k0 HX HB XK hW1 HY
  cases hk with
  | false =>
    have hTe : T = (nds X, 2) := by rw [← HT.out]; exact li_0 HH.out
    subst hTe
    have k5 := one_ HX2.out
    have k6 := HY2.out.frozen 0
    have k7 := one_ HY2.out
    have k8 := HY2.out.lt
    have HBE : Hid (Below w.heap.size w (w2.setCell ⟨w.heap.size + 1, 0, none⟩ (.slice L n c))) := hide (HB2.out.setCell (p := ⟨w.heap.size + 1, 0, none⟩) (by show w.heap.size ≤ w.heap.size + 1; omega) _)
    clear HT
    go_wp2_with fail
    refine bodyPost_ret (v := .tuple #[.agg #[.slice L n c], .int .i64 2]) (by simp only [results, Tryz.results12]; go_simp) rfl ?_
    first | exact ⟨L, n, c, X, rfl, HF.out _ HBE.out, rfl, HBE.out⟩ | exact ⟨L, n, c, rfl, X, HF.out _ HBE.out, rfl, HBE.out⟩
  | true =>
    obtain ⟨kk, rfl, hkl⟩ := hasP_in HH.out (List.mem_cons_self ..)
    obtain ⟨m, rfl, hml⟩ := hasP_in HH.out (List.mem_cons_of_mem _ (List.mem_singleton.2 rfl))
    have hk : kk < n := by have := HLN.out; omega
    have hm : m < n := by have := HLN.out; omega
    have HCK := hide (hasP_check HH.out)
    have HMO := hide (at_mode HCK.out hml)
    have HSO := hide (at_sorted HCK.out hml)
    obtain ⟨g0, o0, y, hL, hg0, hy, hyok, hyc⟩ := (HF.out w2 HB2.out).at_ hk
    obtain ⟨kd, hkd⟩ : ∃ kd, (ndAt (nds X) (kk : Int)).kind = kd := ⟨_, rfl⟩
    have hkd' : y.r.kind = kd := by rw [← hkd, nds_at hy]
    have HKD := hide hkd
    have d0 := hyc.1
    rw [hkd'] at d0
    have i1 := fun W => nd_atA hL n c kk (kk : Int) rfl hk W
    clear hy hyok hyc hkd hkd' hml hkl hL
    by_cases h2 : kd = 2
    · subst h2
      have k0 := one_ HX2.out
      have hTe : T = (nds X, 23) := by rw [← HT.out]; exact li_1 HH.out HKD.out
      subst hTe
      have k5 := one_ HX2.out
      have k6 := HY2.out.frozen 0
      have k7 := one_ HY2.out
      have k8 := HY2.out.lt
      have HBE : Hid (Below w.heap.size w (w2.setCell ⟨w.heap.size + 1, 0, none⟩ (.slice L n c))) := hide (HB2.out.setCell (p := ⟨w.heap.size + 1, 0, none⟩) (by show w.heap.size ≤ w.heap.size + 1; omega) _)
      clear HT
      go_wp2_with fail
      refine bodyPost_ret (v := .tuple #[.agg #[.slice L n c], .int .i64 23]) (by simp only [results, Tryz.results12]; go_simp) rfl ?_
      first | exact ⟨L, n, c, X, rfl, HF.out _ HBE.out, rfl, HBE.out⟩ | exact ⟨L, n, c, rfl, X, HF.out _ HBE.out, rfl, HBE.out⟩
    · have h2b : (kd == 2) = false := beq_eq_false_iff_ne.2 h2
      have H2 : Hid ((ndAt (nds X) (kk : Int)).kind ≠ 2) := hide (by rw [HKD.out]; exact h2)
      have k0 := one_ HX2.out
      have XN := hide (fun (W : World) => rname_any s W hsl)
      obtain ⟨E, hE⟩ : ∃ E, nameC s = E := ⟨_, rfl⟩
      rw [hE] at XN
      have HE := hide hE
      clear hE h2
      go_wp2_with fail
      refine (XN.out _).mono ?_
      rintro e w3 ⟨rfl, hw⟩
      subst hw
      clear d0 i1 h2b XN k0
      by_cases h0 : E = 0
      · subst h0
        have XW := hide (rchanged_c L n c X m w2 (HF.out w2 HB2.out) hm HMO.out)
        obtain ⟨E, hE⟩ : ∃ E, writableP (nds X) (m : Int) = E := ⟨_, rfl⟩
        rw [hE] at XW
        have HE2 := hide hE
        clear hE
        have k0 := one_ HX2.out
        go_wp2_with fail
        refine XW.out.mono ?_
        rintro e w4 ⟨rfl, hb4⟩
        have HX4 := hide (HX2.out.below hb4 HX2.out.lt)
        have HY4 := hide (HY2.out.below hb4 HY2.out.lt)
        have HB4 := hide (HB2.out.trans (hb4.mono HB2.out.size))
        clear hb4 k0 HX2 HB2 XW HY2
        by_cases h0 : E = 0
        · subst h0
          have XA := hide (rat_c L n c X m s w4 (HF.out w4 HB4.out) HFW.out hm HSO.out)
          rcases at_lk HSO.out (s := s) with ⟨y, ha, hy, hlk⟩ | ⟨ha, hlk⟩
          · rw [ha] at XA
            have HLK := hide hlk
            generalize findP (ndAt (nds X) (m : Int)).names s = F at XA
            have hge : (0 : Int) ≤ (F : Int) := by omega
            clear ha hlk hy
            have k0 := one_ HX4.out
            go_wp2_with fail
            refine XA.out.mono ?_
            rintro e w5 ⟨rfl, hb5⟩
            have HX5 := hide (HX4.out.below hb5 HX4.out.lt)
            have HY5 := hide (HY4.out.below hb5 HY4.out.lt)
            have HB5 := hide (HB4.out.trans (hb5.mono HB4.out.size))
            clear hb5 k0 HX4 HB4 XA HY4
            have hTe : T = (nds X, 21) := by rw [← HT.out]; exact li_4 HH.out H2.out HE.out HE2.out HLK.out
            subst hTe
            have k5 := one_ HX5.out
            have k6 := HY5.out.frozen 0
            have k7 := one_ HY5.out
            have k8 := HY5.out.lt
            have HBE : Hid (Below w.heap.size w (w5.setCell ⟨w.heap.size + 1, 0, none⟩ (.slice L n c))) := hide (HB5.out.setCell (p := ⟨w.heap.size + 1, 0, none⟩) (by show w.heap.size ≤ w.heap.size + 1; omega) _)
            clear HT
            go_wp2_with fail
            refine bodyPost_ret (v := .tuple #[.agg #[.slice L n c], .int .i64 21]) (by simp only [results, Tryz.results12]; go_simp) rfl ?_
            first | exact ⟨L, n, c, X, rfl, HF.out _ HBE.out, rfl, HBE.out⟩ | exact ⟨L, n, c, rfl, X, HF.out _ HBE.out, rfl, HBE.out⟩
          · rw [ha] at XA
            have HLK := hide hlk
            clear ha hlk
            have k0 := one_ HX4.out
            go_wp2_with fail
            refine XA.out.mono ?_
            rintro e w5 ⟨rfl, hb5⟩
            have HX5 := hide (HX4.out.below hb5 HX4.out.lt)
            have HY5 := hide (HY4.out.below hb5 HY4.out.lt)
            have HB5 := hide (HB4.out.trans (hb5.mono HB4.out.size))
            clear hb5 k0 HX4 HB4 XA HY4
            have XC := hide (rcopied_c L n c X w.heap.size w5 (HF.out w5 HB5.out) HFW.out HB5.out.size HHI.out)
            have k0 := one_ HX5.out
            go_wp2_with fail
            refine XC.out.mono ?_
            rintro e w8 ⟨L', c', X', rfl, hO, hR, hb8⟩
            obtain ⟨W9, hW9⟩ : ∃ W, w8.alloc (.cells #[.slice L' n c'] 24) = W := ⟨_, rfl⟩
            have b9 : Below w8.heap.size w8 W9 := by rw [← hW9]; exact on_alloc _ _
            have b39 := hb8.trans (b9.mono hb8.size)
            have HP9 : Hid (Blk W9 w8.heap.size 24 #[.slice L' n c']) := hide (by rw [← hW9]; exact Blk.new w8 _ _)
            have HX9 := hide (HX5.out.below b39 HX5.out.lt)
            have HY9 := hide (HY5.out.below b39 HY5.out.lt)
            have hO9 := hO.below b9
            have HB9 := hide (HB5.out.trans (b39.mono HB5.out.size))
            obtain ⟨g, rfl, hgC, hgl⟩ := hO.addr (by omega)
            have XP := hide (rput_c w.heap.size w5.heap.size g n c' m kk X' s W9 hO9 HB5.out.size b39.size (smallG hO9 HFW.out hR HCK.out) hm hk (by rw [hR]; exact HSO.out))
            have HR := hide hR
            have HYl := hide HY5.out.lt
            have HC9 := hide b39
            have HBi := hide HB5.out.size
            have hpg : w8.heap.size ≠ g := by
              have := own_blk_ne hO9.own HP9.out (by decide)
              intro e
              exact this (by rw [e]; rfl)
            clear hO hR hb8 b9 b39 hO9 XC k0 HX5 HB5 HY5
            have k1 := one_ HP9.out
            go_wp2_with (rw [hW9])
            refine XP.out.mono ?_
            rintro e w10 ⟨rfl, X2, hO2, hR2, hb10, hn10⟩
            have hsz := HP9.out.lt
            have HY10 := hide (HY9.out.below hb10 HYl.out)
            have HB10 := hide (HB9.out.trans (hb10.mono HBi.out))
            have HP10 : Hid (w10.cell? ⟨w8.heap.size, 0, none⟩ = some (.slice (some ⟨g, 0, none⟩) n c')) := hide (one_ (hn10 _ _ _ hpg HP9.out))
            have hO11 := hO2.far (p := ⟨w.heap.size + 1, 0, none⟩) (by show w.heap.size ≤ w.heap.size + 1; omega) (by show w.heap.size + 1 < w5.heap.size; exact HYl.out) (.slice (some ⟨g, 0, none⟩) n c')
            have HEND := hide (And.intro hO11.fs (HB10.out.setCell (p := ⟨w.heap.size + 1, 0, none⟩) (by show w.heap.size ≤ w.heap.size + 1; omega) (.slice (some ⟨g, 0, none⟩) n c')))
            have HLS := hide (hR2.trans (by rw [HR.out]) : nds X2 = insP (nds X) (m : Int) s (kk : Int))
            have hTe : T = (insP (nds X) (m : Int) s (kk : Int), 0) := by rw [← HT.out]; exact li_5 HH.out H2.out HE.out HE2.out HLK.out
            have k5 := HP10.out
            have k6 := HY10.out.frozen 0
            have k7 := one_ HY10.out
            have k8 := HY10.out.lt
            subst hTe
            clear hn10 hO2 hR2 hb10 hsz hO11 HT XP k1 hW9
            go_wp2_with fail
            refine bodyPost_ret (v := .tuple #[.agg #[.slice (some ⟨g, 0, none⟩) n c'], .int .i64 0]) (by simp only [results, Tryz.results12]; go_simp) rfl ?_
            first | exact ⟨_, _, _, _, rfl, HEND.out.1, HLS.out, HEND.out.2⟩ | exact ⟨_, _, _, rfl, _, HEND.out.1, HLS.out, HEND.out.2⟩
        · have hEb : (E != 0) = true := bne_iff_ne.2 h0
          have H0 := hide h0
          clear h0
          have hTe : T = (nds X, E) := by rw [← HT.out]; exact li_3 HH.out H2.out HE.out HE2.out H0.out
          subst hTe
          have k5 := one_ HX4.out
          have k6 := HY4.out.frozen 0
          have k7 := one_ HY4.out
          have k8 := HY4.out.lt
          have HBE : Hid (Below w.heap.size w (w4.setCell ⟨w.heap.size + 1, 0, none⟩ (.slice L n c))) := hide (HB4.out.setCell (p := ⟨w.heap.size + 1, 0, none⟩) (by show w.heap.size ≤ w.heap.size + 1; omega) _)
          clear HT
          go_wp2_with fail
          refine bodyPost_ret (v := .tuple #[.agg #[.slice L n c], .int .i64 E]) (by simp only [results, Tryz.results12]; go_simp) rfl ?_
          first | exact ⟨L, n, c, X, rfl, HF.out _ HBE.out, rfl, HBE.out⟩ | exact ⟨L, n, c, rfl, X, HF.out _ HBE.out, rfl, HBE.out⟩
      · have hEb : (E != 0) = true := bne_iff_ne.2 h0
        have H0 := hide h0
        clear h0
        have hTe : T = (nds X, E) := by rw [← HT.out]; exact li_2 HH.out H2.out HE.out H0.out
        subst hTe
        have k5 := one_ HX2.out
        have k6 := HY2.out.frozen 0
        have k7 := one_ HY2.out
        have k8 := HY2.out.lt
        have HBE : Hid (Below w.heap.size w (w2.setCell ⟨w.heap.size + 1, 0, none⟩ (.slice L n c))) := hide (HB2.out.setCell (p := ⟨w.heap.size + 1, 0, none⟩) (by show w.heap.size ≤ w.heap.size + 1; omega) _)
        clear HT
        go_wp2_with fail
        refine bodyPost_ret (v := .tuple #[.agg #[.slice L n c], .int .i64 E]) (by simp only [results, Tryz.results12]; go_simp) rfl ?_
        first | exact ⟨L, n, c, X, rfl, HF.out _ HBE.out, rfl, HBE.out⟩ | exact ⟨L, n, c, rfl, X, HF.out _ HBE.out, rfl, HBE.out⟩
set_option maxRecDepth 100000 in
set_option maxHeartbeats 16000000 in
theorem runlink_c (L : Option Addr) (n c : Nat) (X : List DV) (d : Int) (s : List UInt8) (w : World) (hF : FsR w w.heap.size L n X) (hB : FewB X) :
    Calls Tryz.prog 14 #[.agg #[.slice L n c], .int .i64 d, .string ⟨s.toArray⟩] w (RefEnd w (unlinkP (nds X) d s).1 [.int .i64 (unlinkP (nds X) d s).2]) := by
  have hl := hF.len
  have hln : (nds X).length = n := by rw [nds_length, hl]
  obtain ⟨W1, hW1⟩ : ∃ W, (w.alloc (.cells #[.slice L n c] 24)).alloc (.cells #[.slice none 0 0] 24) = W := ⟨_, rfl⟩
  have HX : Hid (Blk W1 w.heap.size 24 #[.slice L n c]) := hide (by rw [← hW1]; exact (Blk.new w _ _).alloc _)
  have HY : Hid (Blk W1 (w.heap.size + 1) 24 #[.slice none 0 0]) := hide (by rw [← hW1]; have := Blk.new (w.alloc (.cells #[.slice L n c] 24)) 24 #[.slice none 0 0]; simpa only [World.size_alloc] using this)
  have b1 : Below w.heap.size w W1 := by rw [← hW1]; exact (on_alloc w _).trans ((on_alloc _ _).mono (by simp))
  have HF := hide (fun (W : World) (hW : Below w.heap.size w W) => (hF.below hW).more hW.size)
  have HHI := hide (fun (x : DV) (hx : x ∈ X) => hi_of (hF.ok x hx).d)
  have HFW := hide hB
  have HB := hide b1
  have HLN := hide hln
  have XK := hide (rknown_c L n c X d d W1 (HF.out W1 b1) hB)
  obtain ⟨hk, hhk⟩ : ∃ b, hasP (nds X) [d] = b := ⟨_, rfl⟩
  rw [has_two, hhk] at XK
  have HH := hide hhk
  obtain ⟨T, hT⟩ : ∃ T, unlinkP (nds X) d s = T := ⟨_, rfl⟩
  have HT := hide hT
  rw [hT]
  have k0 := one_ HX.out
  clear hF hB b1 hl hln hhk hT
  go_enter Tryz.func14, Tryz.ntmps14
  go_wp2_with (rw [hW1])
  refine XK.out.mono ?_
  rintro e w2 ⟨rfl, hb2⟩
  have HX2 := hide (HX.out.below hb2 HX.out.lt)
  have HY2 := hide (HY.out.below hb2 HY.out.lt)
  have HB2 := hide (HB.out.trans (hb2.mono HB.out.size))
  clear hb2 k0 HX HB XK hW1 HY
  cases hk with
  | false =>
    have hTe : T = (nds X, 2) := by rw [← HT.out]; exact un_0 HH.out
    subst hTe
    have k5 := one_ HX2.out
    have k6 := HY2.out.frozen 0
    have k7 := one_ HY2.out
    have k8 := HY2.out.lt
    have HBE : Hid (Below w.heap.size w (w2.setCell ⟨w.heap.size + 1, 0, none⟩ (.slice L n c))) := hide (HB2.out.setCell (p := ⟨w.heap.size + 1, 0, none⟩) (by show w.heap.size ≤ w.heap.size + 1; omega) _)
    clear HT
    go_wp2_with fail
    refine bodyPost_ret (v := .tuple #[.agg #[.slice L n c], .int .i64 2]) (by simp only [results, Tryz.results14]; go_simp) rfl ?_
    first | exact ⟨L, n, c, X, rfl, HF.out _ HBE.out, rfl, HBE.out⟩ | exact ⟨L, n, c, rfl, X, HF.out _ HBE.out, rfl, HBE.out⟩
  | true =>
    obtain ⟨m, rfl, hml⟩ := hasP_in HH.out (List.mem_singleton.2 rfl)
    have hm : m < n := by have := HLN.out; omega
    have HCK := hide (hasP_check HH.out)
    have HMO := hide (at_mode HCK.out hml)
    have HSO := hide (at_sorted HCK.out hml)
    have HML := hide hml
    have XW := hide (rchanged_c L n c X m w2 (HF.out w2 HB2.out) hm HMO.out)
    obtain ⟨E, hE⟩ : ∃ E, writableP (nds X) (m : Int) = E := ⟨_, rfl⟩
    rw [hE] at XW
    have HE2 := hide hE
    clear hE hml
    have k0 := one_ HX2.out
    go_wp2_with fail
    refine XW.out.mono ?_
    rintro e w4 ⟨rfl, hb4⟩
    have HX4 := hide (HX2.out.below hb4 HX2.out.lt)
    have HY4 := hide (HY2.out.below hb4 HY2.out.lt)
    have HB4 := hide (HB2.out.trans (hb4.mono HB2.out.size))
    clear hb4 k0 HX2 HB2 XW HY2
    by_cases h0 : E = 0
    · subst h0
      have XA := hide (rat_c L n c X m s w4 (HF.out w4 HB4.out) HFW.out hm HSO.out)
      rcases at_lk HSO.out (s := s) with ⟨y, ha, hy, hlk⟩ | ⟨ha, hlk⟩
      · rw [ha] at XA
        obtain ⟨kk, hyk, hkl⟩ := lk_in HCK.out HML.out hlk
        have hk : kk < n := by have := HLN.out; omega
        have HLK := hide hlk
        have HY0 := hide hy
        have HYK := hide hyk
        obtain ⟨F, hF⟩ : ∃ F, findP (ndAt (nds X) (m : Int)).names s = F := ⟨_, rfl⟩
        have HFF := hide hF
        rw [hF] at XA
        have hge : (0 : Int) ≤ (F : Int) := by omega
        clear ha hlk hy hF hyk hkl
        have k0 := one_ HX4.out
        go_wp2_with fail
        refine XA.out.mono ?_
        rintro e w5 ⟨rfl, hb5⟩
        have HX5 := hide (HX4.out.below hb5 HX4.out.lt)
        have HY5 := hide (HY4.out.below hb5 HY4.out.lt)
        have HB5 := hide (HB4.out.trans (hb5.mono HB4.out.size))
        clear hb5 k0 HX4 HB4 XA HY4
        have k0 := one_ HX5.out
        obtain ⟨g0, o0, x, hL, hg0, hx, hxok, hxc⟩ := (HF.out w5 HB5.out).at_ hm
        obtain ⟨g1, o1, z, hL1, hg1, hz, hzok, hzc⟩ := (HF.out w5 HB5.out).at_ hk
        have hyx : x.r.names[F]? = some y := by have h := HY0.out; rw [nds_at hx, ← nds_at hx, HFF.out] at h; rw [nds_at hx] at h; exact h
        have hFx : F < x.mn := by have h1 := (List.getElem?_eq_some_iff.1 hyx).1; have h2 := hxok.nl; omega
        obtain ⟨gn, on, y', hM, hgn, hy', n0, n1⟩ := nm_cells hxok.n hFx
        obtain rfl : y = y' := by rw [hyx] at hy'; injection hy'
        rw [HYK.out] at n1
        have d4 := hxc.2.2.2.2.1
        have c4 := hzc.2.2.2.2.1
        have i1 := fun W => nd_atA hL n c m (m : Int) rfl hm W
        have i2 := fun W => nd_atA hL1 n c kk (kk : Int) rfl hk W
        have i3 := fun W => nm_atA hM x.mn x.mc F (F : Int) rfl hFx W
        have HNZ := hide (nds_at hz)
        have HZL := hide hzok.nl
        have hzn : z.mn ≤ 1000 := by have h1 := (HFW.out.each z (List.mem_of_getElem? hz)).n; have h2 := hzok.nl; omega
        obtain ⟨zn, hzn2⟩ : ∃ zn, z.mn = zn := ⟨_, rfl⟩
        rw [hzn2] at c4 hzn
        have HZN := hide hzn2
        have H5l := hide (show Below w5.heap.size w5 w5 from Below.refl _ _)
        clear hL hL1 hx hxok hxc hz hzok hzc hyx hM hy' n0 hg0 hg1 hgn hzn2
        by_cases hz0 : zn = 0
        · subst hz0
          have hnm : z.r.names = [] := List.eq_nil_of_length_eq_zero (by rw [HZL.out, HZN.out])
          have HNM : Hid ((ndAt (nds X) y.node).names = []) := hide (by rw [HYK.out, HNZ.out]; exact hnm)
          clear hnm
          go_wp2_with fail
          go_quiet (fail)
          obtain ⟨w6, hw6⟩ : ∃ W, w5.drewN nq = W := ⟨_, rfl⟩
          have hb6 : Below w5.heap.size w5 w6 := by rw [← hw6]; exact bl_drewN (Below.refl _ _)
          rw [hw6]
          have HX6 := hide (HX5.out.below hb6 HX5.out.lt)
          have HY6 := hide (HY5.out.below hb6 HY5.out.lt)
          have HB6 := hide (HB5.out.trans (hb6.mono HB5.out.size))
          clear hb6 hw6 k0 HX5 HY5 HB5 d4 c4 i1 i2 i3 n1 H5l
          have XC := hide (rcopied_c L n c X w.heap.size w6 (HF.out w6 HB6.out) HFW.out HB6.out.size HHI.out)
          have k0 := one_ HX6.out
          go_wp2_with fail
          refine XC.out.mono ?_
          rintro e w8 ⟨L', c', X', rfl, hO, hR, hb8⟩
          obtain ⟨W9, hW9⟩ : ∃ W, w8.alloc (.cells #[.slice L' n c'] 24) = W := ⟨_, rfl⟩
          have b9 : Below w8.heap.size w8 W9 := by rw [← hW9]; exact on_alloc _ _
          have b39 := hb8.trans (b9.mono hb8.size)
          have HP9 : Hid (Blk W9 w8.heap.size 24 #[.slice L' n c']) := hide (by rw [← hW9]; exact Blk.new w8 _ _)
          have HX9 := hide (HX6.out.below b39 HX6.out.lt)
          have HY9 := hide (HY6.out.below b39 HY6.out.lt)
          have hO9 := hO.below b9
          have HB9 := hide (HB6.out.trans (b39.mono HB6.out.size))
          obtain ⟨g, rfl, hgC, hgl⟩ := hO.addr (by omega)
          have XP := hide (rdrop_c w.heap.size w6.heap.size g n c' m kk F X' s y W9 hO9 HB6.out.size b39.size (smallG hO9 HFW.out hR HCK.out) hm hk (by rw [hR]; exact HFF.out) (by rw [hR, ← HFF.out]; exact HY0.out) HYK.out (by rw [hR, HLK.out]; exact HYK.out))
          have HR := hide hR
          have HYl := hide HY6.out.lt
          have HC9 := hide b39
          have HBi := hide HB6.out.size
          have hpg : w8.heap.size ≠ g := by
            have := own_blk_ne hO9.own HP9.out (by decide)
            intro e
            exact this (by rw [e]; rfl)
          clear hO hR hb8 b9 b39 hO9 XC k0 HX6 HB6 HY6
          have k1 := one_ HP9.out
          go_wp2_with (rw [hW9])
          refine XP.out.mono ?_
          rintro e w10 ⟨rfl, X2, hO2, hR2, hb10, hn10⟩
          have hsz := HP9.out.lt
          have HY10 := hide (HY9.out.below hb10 HYl.out)
          have HB10 := hide (HB9.out.trans (hb10.mono HBi.out))
          have HP10 : Hid (w10.cell? ⟨w8.heap.size, 0, none⟩ = some (.slice (some ⟨g, 0, none⟩) n c')) := hide (one_ (hn10 _ _ _ hpg HP9.out))
          have hO11 := hO2.far (p := ⟨w.heap.size + 1, 0, none⟩) (by show w.heap.size ≤ w.heap.size + 1; omega) (by show w.heap.size + 1 < w6.heap.size; exact HYl.out) (.slice (some ⟨g, 0, none⟩) n c')
          have HEND := hide (And.intro hO11.fs (HB10.out.setCell (p := ⟨w.heap.size + 1, 0, none⟩) (by show w.heap.size ≤ w.heap.size + 1; omega) (.slice (some ⟨g, 0, none⟩) n c')))
          have HLS := hide (hR2.trans (by rw [HR.out]) : nds X2 = remP (nds X) (m : Int) s)
          have hTe : T = (remP (nds X) (m : Int) s, 0) := by rw [← HT.out]; exact un_4 HH.out HE2.out HLK.out HNM.out
          have k5 := HP10.out
          have k6 := HY10.out.frozen 0
          have k7 := one_ HY10.out
          have k8 := HY10.out.lt
          subst hTe
          clear hn10 hO2 hR2 hb10 hsz hO11 HT XP k1 hW9
          go_wp2_with fail
          refine bodyPost_ret (v := .tuple #[.agg #[.slice (some ⟨g, 0, none⟩) n c'], .int .i64 0]) (by simp only [results, Tryz.results14]; go_simp) rfl ?_
          first | exact ⟨_, _, _, _, rfl, HEND.out.1, HLS.out, HEND.out.2⟩ | exact ⟨_, _, _, rfl, _, HEND.out.1, HLS.out, HEND.out.2⟩
        · have hzg : (0 : Int) < (zn : Int) := by omega
          have hnm : z.r.names ≠ [] := fun e => hz0 (by rw [← HZN.out, ← HZL.out, e]; rfl)
          have HNM : Hid ((ndAt (nds X) y.node).names ≠ []) := hide (by rw [HYK.out, HNZ.out]; exact hnm)
          clear hnm
          go_wp2_with fail
          go_quiet (fail)
          obtain ⟨w6, hw6⟩ : ∃ W, w5.drewN nq = W := ⟨_, rfl⟩
          have hb6 : Below w5.heap.size w5 w6 := by rw [← hw6]; exact bl_drewN (Below.refl _ _)
          rw [hw6]
          have HX6 := hide (HX5.out.below hb6 HX5.out.lt)
          have HY6 := hide (HY5.out.below hb6 HY5.out.lt)
          have HB6 := hide (HB5.out.trans (hb6.mono HB5.out.size))
          clear hb6 hw6 k0 HX5 HY5 HB5 d4 c4 i1 i2 i3 n1 H5l
          have hTe : T = (nds X, 26) := by rw [← HT.out]; exact un_3 HH.out HE2.out HLK.out HNM.out
          subst hTe
          have k5 := one_ HX6.out
          have k6 := HY6.out.frozen 0
          have k7 := one_ HY6.out
          have k8 := HY6.out.lt
          have HBE : Hid (Below w.heap.size w (w6.setCell ⟨w.heap.size + 1, 0, none⟩ (.slice L n c))) := hide (HB6.out.setCell (p := ⟨w.heap.size + 1, 0, none⟩) (by show w.heap.size ≤ w.heap.size + 1; omega) _)
          clear HT
          go_wp2_with fail
          refine bodyPost_ret (v := .tuple #[.agg #[.slice L n c], .int .i64 26]) (by simp only [results, Tryz.results14]; go_simp) rfl ?_
          first | exact ⟨L, n, c, X, rfl, HF.out _ HBE.out, rfl, HBE.out⟩ | exact ⟨L, n, c, rfl, X, HF.out _ HBE.out, rfl, HBE.out⟩
      · rw [ha] at XA
        have HLK := hide hlk
        clear ha hlk
        have k0 := one_ HX4.out
        go_wp2_with fail
        refine XA.out.mono ?_
        rintro e w5 ⟨rfl, hb5⟩
        have HX5 := hide (HX4.out.below hb5 HX4.out.lt)
        have HY5 := hide (HY4.out.below hb5 HY4.out.lt)
        have HB5 := hide (HB4.out.trans (hb5.mono HB4.out.size))
        clear hb5 k0 HX4 HB4 XA HY4
        have hTe : T = (nds X, 20) := by rw [← HT.out]; exact un_2 HH.out HE2.out HLK.out
        subst hTe
        have k5 := one_ HX5.out
        have k6 := HY5.out.frozen 0
        have k7 := one_ HY5.out
        have k8 := HY5.out.lt
        have HBE : Hid (Below w.heap.size w (w5.setCell ⟨w.heap.size + 1, 0, none⟩ (.slice L n c))) := hide (HB5.out.setCell (p := ⟨w.heap.size + 1, 0, none⟩) (by show w.heap.size ≤ w.heap.size + 1; omega) _)
        clear HT
        go_wp2_with fail
        refine bodyPost_ret (v := .tuple #[.agg #[.slice L n c], .int .i64 20]) (by simp only [results, Tryz.results14]; go_simp) rfl ?_
        first | exact ⟨L, n, c, X, rfl, HF.out _ HBE.out, rfl, HBE.out⟩ | exact ⟨L, n, c, rfl, X, HF.out _ HBE.out, rfl, HBE.out⟩
    · have hEb : (E != 0) = true := bne_iff_ne.2 h0
      have H0 := hide h0
      clear h0
      have hTe : T = (nds X, E) := by rw [← HT.out]; exact un_1 HH.out HE2.out H0.out
      subst hTe
      have k5 := one_ HX4.out
      have k6 := HY4.out.frozen 0
      have k7 := one_ HY4.out
      have k8 := HY4.out.lt
      have HBE : Hid (Below w.heap.size w (w4.setCell ⟨w.heap.size + 1, 0, none⟩ (.slice L n c))) := hide (HB4.out.setCell (p := ⟨w.heap.size + 1, 0, none⟩) (by show w.heap.size ≤ w.heap.size + 1; omega) _)
      clear HT
      go_wp2_with fail
      refine bodyPost_ret (v := .tuple #[.agg #[.slice L n c], .int .i64 E]) (by simp only [results, Tryz.results14]; go_simp) rfl ?_
      first | exact ⟨L, n, c, X, rfl, HF.out _ HBE.out, rfl, HBE.out⟩ | exact ⟨L, n, c, rfl, X, HF.out _ HBE.out, rfl, HBE.out⟩
end Go.Proofs.YtlcoapignfmgcaaGreatDoor
