/- The document's Dir, Lookup and List. -/
import Derived.Test.YtnhfpaobocbieaaNdQc
namespace Go.Proofs.Ytnhfpaobocbieaa
open Go.RowKit
set_option linter.unusedVariables false
def dirR (l : List ND) (d : Int) : Int := if d < 0 ∨ (l.length : Int) ≤ d ∨ checkB l = false then 2 else if (ndAt l d).kind ≠ 2 then 22 else 0
theorem dirP_of (l : List ND) (d b : Int) : dirP l d b = if dirR l d = 0 then (if hasBit (ndAt l d).mode b = false then 24 else 0) else dirR l d := by
  unfold dirP dirR
  by_cases h : d < 0 ∨ (l.length : Int) ≤ d ∨ checkB l = false
  · rw [if_pos h, if_pos (by rcases h with h | h | h <;> simp [h]), if_neg (by omega)]
  · have h2 : ¬ (checkB l = false ∨ d < 0 ∨ (l.length : Int) ≤ d) := fun hh => h (by rcases hh with h1 | h1 | h1 <;> simp [h1])
    rw [if_neg h, if_neg h2]
    by_cases hk : (ndAt l d).kind ≠ 2
    · rw [if_pos hk, if_pos hk, if_neg (by omega)]
    · rw [if_neg hk, if_neg hk, if_pos rfl]
theorem dirR_ok {l : List ND} {d : Int} (h : dirR l d = 0) : 0 ≤ d ∧ d < (l.length : Int) ∧ checkB l = true ∧ (ndAt l d).kind = 2 := by
  unfold dirR at h
  by_cases h1 : d < 0 ∨ (l.length : Int) ≤ d ∨ checkB l = false
  · rw [if_pos h1] at h; cases h
  · rw [if_neg h1] at h
    by_cases hk : (ndAt l d).kind ≠ 2
    · rw [if_pos hk] at h; cases h
    · simp only [not_or] at h1
      refine ⟨by omega, by omega, by simpa using h1.2.2, by simpa using hk⟩
set_option maxRecDepth 100000 in
set_option maxHeartbeats 8000000 in
theorem rdir_any (L : Option Addr) (n c : Nat) (l : List DV) (d : Int) (w : World) (hF : FsR w w.heap.size L n l) (hB : FewB l) :
    Calls Try.prog 31 #[.agg #[.slice L n c], .int .i64 d] w fun e w' => e = .returned (.int .i64 (dirR (nds l) d)) ∧ Below w.heap.size w w' := by
  have hl := hF.len
  have hln : (nds l).length = n := by rw [nds_length, hl]
  have HX : Hid (Blk (w.alloc (.cells #[.slice L n c] 24)) w.heap.size 24 #[.slice L n c]) := hide (Blk.new w _ _)
  have HB : Hid (Below w.heap.size w (w.alloc (.cells #[.slice L n c] 24))) := hide (on_alloc _ _)
  have XC := hide (rcheck_any L n c l (w.alloc (.cells #[.slice L n c] 24)) ((hF.below HB.out).more HB.out.size) hB)
  have HF := hide hF
  have HLN := hide hln
  obtain ⟨R, hR⟩ : ∃ R, dirR (nds l) d = R := ⟨_, rfl⟩
  rw [hR]
  have HR := hide hR
  clear hF hB hl hln hR
  have k0 := one_ HX.out
  go_enter Try.func31, Try.ntmps31
  by_cases c1 : d < 0
  · have hRe : R = 2 := by rw [← HR.out]; unfold dirR; rw [if_pos (.inl c1)]
    subst hRe
    go_wp2_with fail
    go_ret
    exact ⟨rfl, HB.out⟩
  by_cases c2 : (n : Int) ≤ d
  · have hRe : R = 2 := by rw [← HR.out]; unfold dirR; rw [if_pos (.inr (.inl (by rw [HLN.out]; exact c2)))]
    subst hRe
    go_wp2_with fail
    go_ret
    exact ⟨rfl, HB.out⟩
  go_wp2_with fail
  refine XC.out.mono ?_
  rintro e w3 ⟨rfl, hb3⟩
  have HX3 := hide (HX.out.below hb3 HX.out.lt)
  have HB3 := hide (HB.out.trans (hb3.mono HB.out.size))
  clear hb3 XC k0 HX HB
  have k0 := one_ HX3.out
  cases hck : checkB (nds l) with
  | false =>
    have hRe : R = 2 := by rw [← HR.out]; unfold dirR; rw [if_pos (.inr (.inr hck))]
    subst hRe
    clear hck
    go_wp2_with fail
    go_ret
    exact ⟨rfl, HB3.out⟩
  | true =>
    have HCK := hide hck
    clear hck
    obtain ⟨m, hm⟩ : ∃ m : Nat, d = (m : Int) := ⟨d.toNat, by omega⟩
    subst hm
    have hmn : m < n := by omega
    obtain ⟨g, o, x, rfl, hg, hx, hok, hc⟩ := HF.out.at_ hmn
    obtain ⟨d0, d1, d2, d3, d4, d5⟩ := NdCells.below hc hg HB3.out
    have i1 := fun W => nd_at g o n c m (m : Int) rfl hmn W
    have HR2 : Hid (R = (if x.r.kind ≠ 2 then 22 else 0)) := hide (by
      rw [← HR.out]; unfold dirR
      rw [if_neg (by rw [HCK.out, HLN.out]; simp; omega), nds_at hx])
    clear hx hok hc
    by_cases c3 : x.r.kind = 2
    · have c3b : (x.r.kind != 2) = false := by rw [c3]; rfl
      have hRe : R = 0 := by rw [HR2.out, if_neg (by simp [c3])]
      subst hRe
      clear c3
      go_wp2_with fail
      go_ret
      exact ⟨rfl, HB3.out⟩
    · have c3b : (x.r.kind != 2) = true := bne_iff_ne.2 c3
      have hRe : R = 22 := by rw [HR2.out, if_pos c3]
      subst hRe
      clear c3
      go_wp2_with fail
      go_ret
      exact ⟨rfl, HB3.out⟩
theorem find_drop {t : List NM} {s : List UInt8} {i : Nat} (h : ∀ (j : Nat) (y : NM), j < i → t[j]? = some y → y.name ≠ s) : t.find? (fun y => y.name == s) = (t.drop i).find? (fun y => y.name == s) := by
  conv => lhs; rw [← List.take_append_drop i t]
  rw [List.find?_append]
  have : (t.take i).find? (fun y => y.name == s) = none := by
    rw [List.find?_eq_none]
    intro y hy
    obtain ⟨j, hj⟩ := List.getElem?_of_mem hy
    have hji : j < i := by
      have := (List.getElem?_eq_some_iff.1 hj).1
      rw [List.length_take] at this
      omega
    rw [List.getElem?_take, if_pos hji] at hj
    have := h j y hji hj
    simpa using this
  rw [this]
  rfl
set_option maxRecDepth 100000 in
set_option maxHeartbeats 8000000 in
theorem rlook_any (L : Option Addr) (n c : Nat) (l : List DV) (d : Int) (s : List UInt8) (w : World) (hF : FsR w w.heap.size L n l) (hB : FewB l) :
    Calls Try.prog 9 #[.agg #[.slice L n c], .int .i64 d, .string ⟨s.toArray⟩] w fun e w' => e = .returned (.tuple #[.int .i64 (lookP (nds l) d s).1, .int .i64 (lookP (nds l) d s).2]) ∧ Below w.heap.size w w' := by
  have hl := hF.len
  have hln : (nds l).length = n := by rw [nds_length, hl]
  have HX : Hid (Blk (w.alloc (.cells #[.slice L n c] 24)) w.heap.size 24 #[.slice L n c]) := hide (Blk.new w _ _)
  have HB : Hid (Below w.heap.size w (w.alloc (.cells #[.slice L n c] 24))) := hide (on_alloc _ _)
  have XD := hide (rdir_any L n c l d (w.alloc (.cells #[.slice L n c] 24)) ((hF.below HB.out).more HB.out.size) hB)
  have HF := hide hF
  have HLN := hide hln
  have HFEW := hide hB.each
  obtain ⟨R, hR⟩ : ∃ E, lookP (nds l) d s = E := ⟨_, rfl⟩
  obtain ⟨E, hE⟩ : ∃ E, dirR (nds l) d = E := ⟨_, rfl⟩
  have HE := hide hE
  rw [hE] at XD
  rw [hR]
  have HR := hide hR
  have HP := hide (dirP_of (nds l) d 1)
  rw [hE] at HP
  clear hF hB hl hln hE hR
  have k0 := one_ HX.out
  go_enter Try.func9, Try.ntmps9
  go_wp2_with fail
  refine XD.out.mono ?_
  rintro e w3 ⟨rfl, hb3⟩
  have HX3 := hide (HX.out.below hb3 HX.out.lt)
  have HB3 := hide (HB.out.trans (hb3.mono HB.out.size))
  clear hb3 XD k0 HX HB
  have k0 := one_ HX3.out
  by_cases he : E = 0
  · subst he
    obtain ⟨hd0, hd1, hck, hkd⟩ := dirR_ok HE.out
    have HCK := hide hck
    obtain ⟨m, hm⟩ : ∃ m : Nat, d = (m : Int) := ⟨d.toNat, by omega⟩
    subst hm
    have hmn : m < n := by have := HLN.out; omega
    obtain ⟨g, o, x, rfl, hg, hx, hok, hc⟩ := HF.out.at_ hmn
    obtain ⟨d0, d1, d2, d3, d4, d5⟩ := NdCells.below hc hg HB3.out
    have i1 := fun W => nd_at g o n c m (m : Int) rfl hmn W
    have hmx : x.mn ≤ 100 := by have := (HFEW.out x (List.mem_of_getElem? hx)).n; have := hok.nl; omega
    have hmod := mode_of hck (n := x.r) (by unfold nds; exact List.mem_map.2 ⟨x, List.mem_of_getElem? hx, rfl⟩)
    have HXR : Hid (ndAt (nds l) (m : Int) = x.r) := hide (nds_at hx)
    have HNL := hide hok.nl
    have HNM := hide (hok.n.below HB3.out)
    clear hx hok hc hck hkd
    by_cases ho : x.r.mode % 2 = 1
    · have ht : x.r.mode.tmod 2 = 1 := by rw [tmod2 hmod.1, ho]
      have HRX : Hid (R = (match x.r.names.find? (fun y => y.name == s) with | some y => (y.node, 0) | none => (0, 20))) := hide (by
        have hz : dirP (nds l) (m : Int) 1 = 0 := by
          rw [HP.out, if_pos rfl, HXR.out, if_neg (by unfold hasBit; rw [if_pos rfl, decide_eq_true ho]; simp)]
        rw [← HR.out]
        unfold lookP
        rw [if_pos hz, HXR.out]
        cases x.r.names.find? (fun y => y.name == s) <;> rfl)
      clear ho hmod
      go_wp2_with fail
      clear d0 d1 d2 d3 d4 d5 k0 i1 ht
      go_loopw [10] (fun u10 wx => ∃ i : Nat, i ≤ x.mn ∧ u10 = .int .i64 (i : Int) ∧ Hid (∀ (j : Nat) (y : NM), j < i → x.r.names[j]? = some y → y.name ≠ s) ∧ Hid (w3 = wx)) (fun i _ => x.mn - (intOf i).toNat)
      case atStart => exact ⟨0, Nat.zero_le _, rfl, hide (fun j y hj => absurd hj (by omega)), hide (by trivial)⟩
      case round =>
        obtain ⟨i, hi, rfl, HA, HW⟩ := hrel
        obtain rfl := HW.out
        by_cases hin : i < x.mn
        · have hlt : (i : Int) < (x.mn : Int) := by omega
          obtain ⟨gm, om, y, hM, hgm, hy, n0, n1⟩ := nm_cells HNM.out hin
          have i2 := fun W => nm_at gm om x.mn x.mc i (i : Int) rfl hin W
          have HY := hide hy
          rw [hM]
          clear hy hM
          cases hys : (y.name == s) with
          | true =>
            have hRe : R = (y.node, 0) := by
              rw [HRX.out, find_drop (i := i) HA.out]
              obtain ⟨h1, h2⟩ := List.getElem?_eq_some_iff.1 HY.out
              rw [List.drop_eq_getElem_cons h1, h2, List.find?_cons, hys]
            subst hRe
            go_wp2_with fail
            refine bodyPost_ret (v := .tuple #[.int .i64 y.node, .int .i64 0]) (by simp only [results, Try.results9]; go_simp) rfl ⟨rfl, HB3.out⟩
          | false =>
            have HYS := hide hys
            go_wp2_with fail
            go_roundw
            case rel =>
              refine ⟨i + 1, by omega, by go_num, hide (fun j z hj hz => ?_), hide (by trivial)⟩
              rcases Nat.lt_or_ge j i with h | h
              · exact HA.out j z h hz
              · obtain rfl : j = i := by omega
                have := HY.out
                rw [this] at hz
                injection hz with hz
                subst hz
                exact beq_eq_false_iff_ne.1 HYS.out
            case measure => simp [intOf]; omega
        · have hlt : ¬ (i : Int) < (x.mn : Int) := by omega
          have hRe : R = (0, 20) := by
            rw [HRX.out, find_drop (i := i) HA.out, List.drop_eq_nil_of_le (by have := HNL.out; omega)]
            rfl
          subst hRe
          go_wp2_with fail
          refine bodyPost_ret (v := .tuple #[.int .i64 0, .int .i64 20]) (by simp only [results, Try.results9]; go_simp) rfl ⟨rfl, HB3.out⟩
    · have ht : x.r.mode.tmod 2 = 0 := by rw [tmod2 hmod.1]; omega
      have hRe : R = (0, 24) := by
        have hz : dirP (nds l) (m : Int) 1 = 24 := by
          rw [HP.out, if_pos rfl, HXR.out, if_pos (by unfold hasBit; rw [if_pos rfl, decide_eq_false ho])]
        rw [← HR.out]
        unfold lookP
        rw [hz, if_neg (by omega)]
      subst hRe
      clear ho hmod
      go_wp2_with fail
      refine bodyPost_ret (v := .tuple #[.int .i64 0, .int .i64 24]) (by simp only [results, Try.results9]; go_simp) rfl ⟨rfl, HB3.out⟩
  · have heb : (E != 0) = true := bne_iff_ne.2 he
    have hRe : R = (0, E) := by
      have hz : dirP (nds l) d 1 = E := by rw [HP.out, if_neg he]
      rw [← HR.out]
      unfold lookP
      rw [hz, if_neg he]
    subst hRe
    clear he HR
    go_wp2_with fail
    refine bodyPost_ret (v := .tuple #[.int .i64 0, .int .i64 E]) (by simp only [results, Try.results9]; go_simp) rfl ⟨rfl, HB3.out⟩
set_option maxRecDepth 100000 in
set_option maxHeartbeats 8000000 in
theorem rlist_any (L : Option Addr) (n c : Nat) (l : List DV) (d : Int) (w : World) (hF : FsR w w.heap.size L n l) (hB : FewB l) :
    Calls Try.prog 11 #[.agg #[.slice L n c], .int .i64 d] w (ListEnd (nds l) d w) := by
  have hl := hF.len
  have hln : (nds l).length = n := by rw [nds_length, hl]
  have HX : Hid (Blk (w.alloc (.cells #[.slice L n c] 24)) w.heap.size 24 #[.slice L n c]) := hide (Blk.new w _ _)
  have HB : Hid (Below w.heap.size w (w.alloc (.cells #[.slice L n c] 24))) := hide (on_alloc _ _)
  have XD := hide (rdir_any L n c l d (w.alloc (.cells #[.slice L n c] 24)) ((hF.below HB.out).more HB.out.size) hB)
  have HF := hide hF
  have HLN := hide hln
  have HFEW := hide hB.each
  obtain ⟨E, hE⟩ : ∃ E, dirR (nds l) d = E := ⟨_, rfl⟩
  have HE := hide hE
  rw [hE] at XD
  have HP := hide (dirP_of (nds l) d 4)
  rw [hE] at HP
  have HEND : Hid (∀ (A : Option Addr) (m c : Nat) (w' : World) (e : Int) (ks : List Bs), dirP (nds l) d 4 = e → listP (nds l) d = ks → Ow w.heap.size w' A m c ks → Below w.heap.size w w' → ListEnd (nds l) d w (.returned (.tuple #[.slice A m c, .int .i64 e])) w') := hide (fun A m c w' e ks he hk h1 h2 => ⟨A, m, c, by rw [he], by rw [hk]; exact h1, h2⟩)
  obtain ⟨i0, hi, hz0, hz1, hz2⟩ := info_parts infoStr
  clear hF hB hl hln hE
  have k0 := one_ HX.out
  go_enter Try.func11, Try.ntmps11
  go_wp2_with fail
  refine XD.out.mono ?_
  rintro e w3 ⟨rfl, hb3⟩
  have HX3 := hide (HX.out.below hb3 HX.out.lt)
  have HB3 := hide (HB.out.trans (hb3.mono HB.out.size))
  clear hb3 XD k0 HX HB
  have k0 := one_ HX3.out
  have kl := HX3.out.lt
  by_cases he : E = 0
  · subst he
    obtain ⟨hd0, hd1, hck, hkd⟩ := dirR_ok HE.out
    obtain ⟨m, hm⟩ : ∃ m : Nat, d = (m : Int) := ⟨d.toNat, by omega⟩
    subst hm
    have hmn : m < n := by have := HLN.out; omega
    obtain ⟨g, o, x, rfl, hg, hx, hok, hc⟩ := HF.out.at_ hmn
    have HC := hide (fun (V : World) (hV : Below w.heap.size w V) => NdCells.below hc hg hV)
    obtain ⟨d0, d1, d2, d3, d4, d5⟩ := HC.out _ HB3.out
    have i1 := fun W => nd_at g o n c m (m : Int) rfl hmn W
    have hmx : x.mn ≤ 100 := by have := (HFEW.out x (List.mem_of_getElem? hx)).n; have := hok.nl; omega
    have HXR : Hid (ndAt (nds l) (m : Int) = x.r) := hide (nds_at hx)
    have HNL := hide hok.nl
    have HOKN := hide (fun W (hW : Below w.heap.size w W) => hok.n.below hW)
    clear hx hok hc hck hkd
    by_cases ho : 4 ≤ x.r.mode
    · have hlt4 : ¬ (x.r.mode < 4) := by omega
      have HDZ : Hid (dirP (nds l) (m : Int) 4 = 0) := hide (by
        rw [HP.out, if_pos rfl, HXR.out, if_neg (by unfold hasBit; rw [if_neg (by omega), decide_eq_true ho]; simp)])
      have HLQ : Hid (listP (nds l) (m : Int) = x.r.names.map NM.name) := hide (by unfold listP; rw [if_pos HDZ.out, HXR.out])
      clear ho
      go_wp2_with fail
      clear d0 d1 d2 d3 d4 d5 k0 kl
      go_loopw [7, 8] (fun u7 u8 wx => ∃ (i : Nat) (A : Option Addr) (cc : Nat), i ≤ x.mn ∧ u7 = .slice A i cc ∧ u8 = .int .i64 (i : Int) ∧ Hid (Ow w.heap.size wx A i cc ((x.r.names.map NM.name).take i)) ∧ Hid (Below w.heap.size w wx) ∧ Hid (Blk wx w.heap.size 24 #[.slice (some ⟨g, o, none⟩) n c])) (fun _ i _ => x.mn - (intOf i).toNat)
      case atStart => exact ⟨0, none, 0, Nat.zero_le _, rfl, rfl, hide (Ow.none_ _ _), HB3, HX3⟩
      case round =>
        obtain ⟨i, A, cc, hi2, rfl, rfl, HO, HB, HX⟩ := hrel
        have k0 := one_ HX.out
        have kl := HX.out.lt
        obtain ⟨d0, d1, d2, d3, d4, d5⟩ := HC.out _ HB.out
        have hgw : g < wr.heap.size := by have := HB.out.size; omega
        clear d0 d1 d2 d3 d5
        by_cases hin : i < x.mn
        · have hlt : (i : Int) < (x.mn : Int) := by omega
          obtain ⟨g', o', y, hM, hg', hy, n0, n1⟩ := nm_cells (HOKN.out _ HB.out) hin
          have i2 := fun W => nm_at g' o' x.mn x.mc i (i : Int) rfl hin W
          have HTK : Hid ((x.r.names.map NM.name).take (i + 1) = (x.r.names.map NM.name).take i ++ [y.name]) := hide (by
            have h : (x.r.names.map NM.name)[i]? = some y.name := by rw [List.getElem?_map, hy]; rfl
            obtain ⟨h1, h2⟩ := List.getElem?_eq_some_iff.1 h
            rw [List.take_succ_eq_append_getElem h1, h2])
          have hr1 := one_str wr y.name
          have hO1 := HO.out.alloc (.cells #[.string ⟨y.name.toArray⟩] 9)
          have hX1 := HX.out.alloc (.cells #[.string ⟨y.name.toArray⟩] 9)
          have hsz := HB.out.size
          rw [hM] at d4
          clear hy hM
          go_wp2_with (at_builtin; (refine wpList_append_any _ rfl (.tmp 33) (.tmp 44) 32 rfl w.heap.size 9 i0 _ 1 16 Try.underlying32 hi hz0 hz1 hz2 rfl (by omega) (.slice A i cc) i (svs ((x.r.names.map NM.name).take i)) rfl hO1 (wr.heap.size + 1) (some ⟨wr.heap.size, 0, none⟩) 1 1 (svs [y.name]) rfl hr1 (svs_one _) ?q1 ?q2 ?q3 ?_))
          case q1 => unfold maxLen; omega
          case q2 => omega
          case q3 => simp; omega
          intro v1 w6 hown1 hg1 hat1
          have hne : some w.heap.size ≠ (Value.slice A i cc).ownBlock := fun h => own_blk_ne hO1 hX1 (by decide) h.symm
          have HX6 := hide (hX1.grown hg1 hne)
          obtain ⟨A2, c2, rfl, O2, W2⟩ := ow_next' HO.out hown1 hg1 HB.out (Nat.le_refl _)
          have HO6 : Hid (Ow w.heap.size w6 A2 (i + 1) c2 ((x.r.names.map NM.name).take (i + 1))) := hide (by rw [HTK.out]; exact O2)
          have HB6 := hide W2
          clear hown1 hg1 hat1 O2 W2 hr1 hO1 n0 n1 hX1 hne d4 k0 kl
          go_wp2_with fail
          go_roundw
          case rel => exact ⟨i + 1, A2, c2, by omega, rfl, by go_num, HO6, HB6, HX6⟩
          case measure => simp [intOf]; omega
        · have hlt : ¬ ((i : Int) < (x.mn : Int)) := by omega
          obtain rfl : x.mn = i := by omega
          have HO2 : Hid (Ow w.heap.size wr A x.mn cc (x.r.names.map NM.name)) := hide (by
            have h := HO.out
            rw [List.take_of_length_le (by rw [List.length_map]; have := HNL.out; omega)] at h
            exact h)
          go_wp2_with fail
          refine bodyPost_ret (v := .tuple #[.slice A x.mn cc, .int .i64 0]) (by simp only [results, Try.results11]; go_simp) rfl (HEND.out _ _ _ _ _ _ HDZ.out HLQ.out HO2.out HB.out)
    · have hlt4 : x.r.mode < 4 := by omega
      have HDZ : Hid (dirP (nds l) (m : Int) 4 = 24) := hide (by
        rw [HP.out, if_pos rfl, HXR.out, if_pos (by unfold hasBit; rw [if_neg (by omega), decide_eq_false ho])])
      have HLQ : Hid (listP (nds l) (m : Int) = []) := hide (by unfold listP; rw [HDZ.out, if_neg (by omega)])
      clear ho
      go_wp2_with fail
      refine bodyPost_ret (v := .tuple #[.slice none 0 0, .int .i64 24]) (by simp only [results, Try.results11]; go_simp) rfl (HEND.out _ _ _ _ _ _ HDZ.out HLQ.out (Ow.none_ _ _) HB3.out)
  · have heb : (E != 0) = true := bne_iff_ne.2 he
    have HDZ : Hid (dirP (nds l) d 4 = E) := hide (by rw [HP.out, if_neg he])
    have HLQ : Hid (listP (nds l) d = []) := hide (by unfold listP; rw [HDZ.out, if_neg he])
    clear he
    go_wp2_with fail
    refine bodyPost_ret (v := .tuple #[.slice none 0 0, .int .i64 E]) (by simp only [results, Try.results11]; go_simp) rfl (HEND.out _ _ _ _ _ _ HDZ.out HLQ.out (Ow.none_ _ _) HB3.out)
end Go.Proofs.Ytnhfpaobocbieaa
