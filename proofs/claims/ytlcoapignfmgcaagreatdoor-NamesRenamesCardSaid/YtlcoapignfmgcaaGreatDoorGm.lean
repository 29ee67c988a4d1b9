/- What a file system that may be gives the changes. names.Link. names.creatable. A node put behind the nodes of one's own. names.Create. -/
import Derived.Test.YtlcoapignfmgcaaGreatDoorGk
import Derived.Test.YtlcoapignfmgcaaGreatDoorGl
import Derived.Test.YtlcoapignfmgcaaGreatDoorGh
namespace Go.Proofs.YtlcoapignfmgcaaGreatDoor
open Go.RowKit
set_option linter.unusedVariables false
theorem ndAt_in {l : List ND} {m : Nat} (hm : m < l.length) : ndAt l (m : Int) ∈ l := by
  unfold ndAt
  rw [Int.toNat_natCast, List.getD_eq_getElem?_getD, List.getElem?_eq_getElem hm]
  exact List.getElem_mem _
theorem at_sorted {l : List ND} (h : checkB l = true) {m : Nat} (hm : m < l.length) : sortedP (ndAt l (m : Int)).names := nodeB_sorted ((checkB_facts h).2.2.1 _ (ndAt_in hm))
theorem nodeB_mode {n : ND} {c : Int} (h : nodeB n c = true) : 0 ≤ n.mode ∧ n.mode ≤ 7 := by
  unfold nodeB at h
  simp only [Bool.and_eq_true, decide_eq_true_eq] at h
  exact h.1
theorem at_mode {l : List ND} (h : checkB l = true) {m : Nat} (hm : m < l.length) : 0 ≤ (ndAt l (m : Int)).mode ∧ (ndAt l (m : Int)).mode ≤ 7 := nodeB_mode ((checkB_facts h).2.2.1 _ (ndAt_in hm))
theorem lk_in {l : List ND} (h : checkB l = true) {m : Nat} (hm : m < l.length) {s : List UInt8} {i : Int} (hl : lkP l (m : Int) s = (i, true)) : ∃ k : Nat, i = (k : Int) ∧ k < l.length := by
  unfold lkP at hl
  split at hl
  · rename_i y hy
    injection hl with h1 h2
    subst h1
    have := (checkB_facts h).2.2.2.2.2.1 _ (ndAt_in hm) y (List.mem_of_find?_eq_some hy)
    exact ⟨y.node.toNat, by omega, by omega⟩
  · injection hl with h1 h2
    cases h2
theorem links_small {l : List ND} (h : checkB l = true) (hA : (allNames l).length ≤ 100000) : ∀ n ∈ l, 0 ≤ n.links ∧ n.links ≤ 100000 := fun n hn => by
  obtain ⟨i, hi⟩ := List.mem_iff_getElem?.1 hn
  have hil : i < l.length := (List.getElem?_eq_some_iff.1 hi).1
  have h1 := List.all_eq_true.1 (checkB_facts h).2.2.2.1 i (List.mem_range.2 hil)
  have hne : ndAt l (i : Int) = n := by
    unfold ndAt
    rw [Int.toNat_natCast, List.getD_eq_getElem?_getD, hi]
    rfl
  have hc : cnt l (i : Int) ≤ (allNames l).length := List.countP_le_length
  unfold linkB at h1
  by_cases h0 : i = 0
  · subst h0
    rw [if_pos rfl] at h1
    simp only [Bool.and_eq_true, decide_eq_true_eq] at h1
    have h2 := h1.1.2
    have h3 : ndAt l 0 = n := hne
    rw [h3] at h2
    omega
  · rw [if_neg h0] at h1
    simp only [Bool.and_eq_true, decide_eq_true_eq] at h1
    have h2 := h1.1
    rw [hne] at h2
    omega
theorem own_small {B : Nat} {w : World} {L : Option Addr} {n c : Nat} {X l : List DV} (hO : OF B w L n c X) (hB : FewB l) (hR : nds X = nds l) (h : checkB (nds l) = true) : ∀ x ∈ X, x.mn ≤ 1000 ∧ 0 ≤ x.r.links ∧ x.r.links ≤ 1000000 := fun x hx => by
  have h1 : x.r ∈ nds l := by rw [← hR]; unfold nds; exact List.mem_map.2 ⟨x, hx, rfl⟩
  obtain ⟨y, hy, hyr⟩ : ∃ y ∈ l, y.r = x.r := by unfold nds at h1; exact List.mem_map.1 h1
  have h2 := (hB.each y hy).n
  have h3 := (hO.ok x hx).nl
  have h4 := links_small h (names_few hB) x.r h1
  rw [hyr] at h2
  omega
set_option maxRecDepth 100000 in
set_option maxHeartbeats 16000000 in
theorem unlink_c (L : Option Addr) (n c : Nat) (l : List DV) (d : Int) (s : List UInt8) (w : World) (hF : FsR w w.heap.size L n l) (hB : FewB l) :
    Calls Tryz.prog 13 #[.agg #[.slice L n c], .int .i64 d, .string ⟨s.toArray⟩] w (FsEnd w (unlinkP (nds l) d s).1 [.int .i64 (unlinkP (nds l) d s).2]) := by
  have hl := hF.len
  have hln : (nds l).length = n := by rw [nds_length, hl]
  obtain ⟨W1, hW1⟩ : ∃ W, (w.alloc (.cells #[.slice L n c] 24)).alloc (.cells #[.slice none 0 0] 24) = W := ⟨_, rfl⟩
  have HX : Hid (Blk W1 w.heap.size 24 #[.slice L n c]) := hide (by rw [← hW1]; exact (Blk.new w _ _).alloc _)
  have HY : Hid (Blk W1 (w.heap.size + 1) 24 #[.slice none 0 0]) := hide (by rw [← hW1]; have := Blk.new (w.alloc (.cells #[.slice L n c] 24)) 24 #[.slice none 0 0]; simpa only [World.size_alloc] using this)
  have b1 : Below w.heap.size w W1 := by rw [← hW1]; exact ((Below.refl _ _).alloc (Nat.le_refl _) _).alloc (by simp) _
  have hsz : w.heap.size + 2 = W1.heap.size := by rw [← hW1]; simp
  have XF := hide (fs_any L n c l W1 ((hF.below b1).more b1.size) (small_of hF hB))
  have HF := hide (fun (W : World) (hW : Below w.heap.size w W) => (hF.below hW).more hW.size)
  have HFW := hide hB
  have HB := hide b1
  have HLN := hide hln
  have HT : Hid (unlinkP (nds l) d s = if hasP (nds l) [d] then (if writableP (nds l) d = 0 then (if (lkP (nds l) d s).2 then (if (ndAt (nds l) (lkP (nds l) d s).1).names.isEmpty then (remP (nds l) d s, 0) else (nds l, 26)) else (nds l, 20)) else (nds l, writableP (nds l) d)) else (nds l, 2)) := hide rfl
  generalize unlinkP (nds l) d s = T at *
  have k0 := one_ HX.out
  have k1 := one_ HY.out
  clear hF hB b1 hl hln
  go_enter Tryz.func13, Tryz.ntmps13
  go_wp2_with (rw [hW1])
  refine XF.out.mono ?_
  rintro e w2 ⟨L', c', X, rfl, hO, hR, hS, hb2⟩
  obtain ⟨W3, hW3⟩ : ∃ W, w2.alloc (.cells #[.slice L' n c'] 24) = W := ⟨_, rfl⟩
  obtain ⟨W4, hW4⟩ : ∃ W, W3.alloc (.cells #[.int .i64 d] 3) = W := ⟨_, rfl⟩
  have b3 : Below w2.heap.size w2 W3 := by rw [← hW3]; exact on_alloc _ _
  have b4 : Below W3.heap.size W3 W4 := by rw [← hW4]; exact on_alloc _ _
  have hp3 : Blk W3 w2.heap.size 24 #[.slice L' n c'] := by rw [← hW3]; exact Blk.new w2 _ _
  have hz2 := hb2.size
  have hz3 := b3.size
  have hz4 := b4.size
  have hpl := hp3.lt
  have hx2 := HX.out.below hb2 HX.out.lt
  have hy2 := HY.out.below hb2 HY.out.lt
  have hx3 := hx2.below b3 hx2.lt
  have hy3 := hy2.below b3 hy2.lt
  have hB3 := (HB.out.trans (hb2.mono (by omega))).trans (b3.mono (by omega))
  have HX4 := hide (hx3.below b4 hx3.lt)
  have HY4 := hide (hy3.below b4 hy3.lt)
  have HP4 := hide (hp3.below b4 hp3.lt)
  have HO4 := hide ((hO.below b3).below b4)
  have HB4 := hide (hB3.trans (b4.mono (by omega)))
  have HRX : Hid (nds X = nds l) := hide hR
  have XR : Reads W4 W4.heap.size 1 (some ⟨W3.heap.size, 0, none⟩) 1 (ivs [d]) := by rw [← hW4]; exact ivs_one W3 d _
  have X5 := hide (has_c L n c l [d] (some ⟨W3.heap.size, 0, none⟩) 1 1 W4 (HF.out W4 HB4.out) HFW.out XR (by omega))
  have k3 := one_ hx3
  clear b3 b4 hO hb2 XF HX HY k0 k1 hR hS HB XR hx2 hy2 hx3 hy3 hp3 hB3
  go_wp2_with (first | rw [hW3] | rw [hW4])
  refine X5.out.mono ?_
  rintro e w5 ⟨rfl, hb5⟩
  have HX5 := hide (HX4.out.below hb5 HX4.out.lt)
  have HY5 := hide (HY4.out.below hb5 HY4.out.lt)
  have HP5 := hide (HP4.out.below hb5 HP4.out.lt)
  have HO5 := hide (HO4.out.below hb5)
  have HB5 := hide (HB4.out.trans (hb5.mono HB4.out.size))
  have hz5 := hb5.size
  clear hb5 X5 k3 HX4 HY4 HP4 HO4 HB4 hW1 hW3 hW4
  cases hh : hasP (nds l) [d] with
  | false =>
    have hTe : T = (nds l, 2) := by rw [HT.out, hh]; rfl
    subst hTe
    have k5 := one_ HP5.out
    have k6 := HY5.out.frozen 0
    have k7 := one_ HY5.out
    clear HT hh
    go_wp2_with fail
    refine bodyPost_ret (v := .tuple #[.agg #[.slice L' n c'], .int .i64 2]) (by simp only [results, Tryz.results13]; go_simp) rfl ?_
    refine ⟨_, _, _, _, rfl, OF.less (OF.far HO5.out (p := ⟨w.heap.size + 1, 0, none⟩) (by show w.heap.size + 1 < W1.heap.size; omega) _) (by omega), HRX.out, HB5.out.setCell (p := ⟨w.heap.size + 1, 0, none⟩) (by show w.heap.size ≤ w.heap.size + 1; omega) _⟩
  | true =>
    obtain ⟨m, rfl, hml⟩ := hasP_in hh (List.mem_singleton.2 rfl)
    have hck := hasP_check hh
    have HCK := hide hck
    have hm : m < n := by have := HLN.out; omega
    have XW := hide (writable_c L n c l m w5 (HF.out w5 HB5.out) hm (at_mode hck hml))
    obtain ⟨E, hE⟩ : ∃ E, writableP (nds l) (m : Int) = E := ⟨_, rfl⟩
    rw [hE] at XW
    have HT1 : Hid (T = if E = 0 then (if (lkP (nds l) (m : Int) s).2 then (if (ndAt (nds l) (lkP (nds l) (m : Int) s).1).names.isEmpty then (remP (nds l) (m : Int) s, 0) else (nds l, 26)) else (nds l, 20)) else (nds l, E)) := hide (by rw [HT.out, hh, hE]; rfl)
    have k5 := one_ HX5.out
    clear HT hh hE hck
    go_wp2_with fail
    refine XW.out.mono ?_
    rintro e w6 ⟨rfl, hb6⟩
    have HX6 := hide (HX5.out.below hb6 HX5.out.lt)
    have HY6 := hide (HY5.out.below hb6 HY5.out.lt)
    have HP6 := hide (HP5.out.below hb6 HP5.out.lt)
    have HO6 := hide (HO5.out.below hb6)
    have HB6 := hide (HB5.out.trans (hb6.mono HB5.out.size))
    have hz6 := hb6.size
    clear hb6 XW k5 HX5 HY5 HP5 HO5 HB5
    by_cases h0 : E = 0
    · subst h0
      have HT2 : Hid (T = if (lkP (nds l) (m : Int) s).2 then (if (ndAt (nds l) (lkP (nds l) (m : Int) s).1).names.isEmpty then (remP (nds l) (m : Int) s, 0) else (nds l, 26)) else (nds l, 20)) := hide (by rw [HT1.out, if_pos rfl])
      have XL := hide (lookup_c L n c l m s w6 (HF.out w6 HB6.out) HFW.out hm (at_sorted HCK.out hml))
      obtain ⟨R, hR⟩ : ∃ R, lkP (nds l) (m : Int) s = R := ⟨_, rfl⟩
      have HR := hide hR
      rw [hR] at HT2 XL
      have k5 := one_ HX6.out
      clear HT1 hR
      obtain ⟨i, b⟩ := R
      dsimp only at XL HT2
      go_wp2_with fail
      refine XL.out.mono ?_
      rintro e w7 ⟨rfl, hb7⟩
      have HX7 := hide (HX6.out.below hb7 HX6.out.lt)
      have HY7 := hide (HY6.out.below hb7 HY6.out.lt)
      have HP7 := hide (HP6.out.below hb7 HP6.out.lt)
      have HO7 := hide (HO6.out.below hb7)
      have HB7 := hide (HB6.out.trans (hb7.mono HB6.out.size))
      have hz7 := hb7.size
      clear hb7 XL k5 HX6 HY6 HP6 HO6 HB6
      cases b with
      | false =>
        have hTe : T = (nds l, 20) := by rw [HT2.out]; rfl
        subst hTe
        have k5 := one_ HP7.out
        have k6 := HY7.out.frozen 0
        have k7 := one_ HY7.out
        clear HT2
        go_wp2_with fail
        refine bodyPost_ret (v := .tuple #[.agg #[.slice L' n c'], .int .i64 20]) (by simp only [results, Tryz.results13]; go_simp) rfl ?_
        refine ⟨_, _, _, _, rfl, OF.less (OF.far HO7.out (p := ⟨w.heap.size + 1, 0, none⟩) (by show w.heap.size + 1 < W1.heap.size; omega) _) (by omega), HRX.out, HB7.out.setCell (p := ⟨w.heap.size + 1, 0, none⟩) (by show w.heap.size ≤ w.heap.size + 1; omega) _⟩
      | true =>
        obtain ⟨k, rfl, hkl⟩ := lk_in HCK.out hml HR.out
        have hk : k < n := by have := HLN.out; omega
        obtain ⟨g0, o0, y, rfl, hg0, hy, hyok, hyc⟩ := (HF.out w7 HB7.out).at_ hk
        obtain ⟨d0, d1, d2, d3, d4, d5⟩ := hyc
        have i1 := fun W => nd_at g0 o0 n c k (k : Int) rfl hk W
        have k5 := one_ HX7.out
        have hyn := hyok.nl
        have HT3 : Hid (T = if y.r.names.isEmpty then (remP (nds l) (m : Int) s, 0) else (nds l, 26)) := hide (by rw [HT2.out, if_pos rfl, nds_at hy])
        clear hy hyok HT2
        by_cases hye : y.mn = 0
        · have hTe : T = (remP (nds l) (m : Int) s, 0) := by rw [HT3.out, List.eq_nil_of_length_eq_zero (by omega : y.r.names.length = 0)]; rfl
          subst hTe
          obtain ⟨g, rfl, hgB, hgl⟩ := HO7.out.addr (by omega)
          have XM := hide (remove_c W1.heap.size w2.heap.size g n c' m k X s w7 HO7.out HP7.out (by omega) (own_small HO7.out HFW.out HRX.out HCK.out) hm hk (by rw [HRX.out]; exact at_sorted HCK.out hml) (by rw [HRX.out]; exact HR.out))
          have hgt : ¬ (0 : Int) < (y.mn : Int) := by omega
          clear HT3 hye
          go_wp2_with fail
          refine XM.out.mono ?_
          rintro e w8 ⟨rfl, X', hO8, hR8, hP8, hb8⟩
          have HO8 := hide hO8
          have HR8 : Hid (nds X' = remP (nds l) (m : Int) s) := hide (by rw [hR8, HRX.out])
          have HP8 := hide hP8
          have HY8 := hide (HY7.out.below (hb8.mono (Nat.le_refl _)) (by have := HY7.out.lt; omega))
          have HB8 := hide (HB7.out.trans (hb8.mono (by omega)))
          have k8 := one_ HP8.out
          have k6 := HY8.out.frozen 0
          have k7 := one_ HY8.out
          clear hO8 hR8 hP8 hb8 XM k5 HX7 HY7 HP7 HO7 HB7 d0 d1 d2 d3 d4 d5
          go_wp2_with fail
          refine bodyPost_ret (v := .tuple #[.agg #[.slice (some ⟨g, 0, none⟩) n c'], .int .i64 0]) (by simp only [results, Tryz.results13]; go_simp) rfl ?_
          refine ⟨_, _, _, _, rfl, OF.less (OF.far HO8.out (p := ⟨w.heap.size + 1, 0, none⟩) (by show w.heap.size + 1 < W1.heap.size; omega) _) (by omega), HR8.out, HB8.out.setCell (p := ⟨w.heap.size + 1, 0, none⟩) (by show w.heap.size ≤ w.heap.size + 1; omega) _⟩
        · have hTe : T = (nds l, 26) := by
            rw [HT3.out, if_neg]
            intro hc
            rw [List.isEmpty_iff] at hc
            rw [hc] at hyn
            simp at hyn
            omega
          subst hTe
          have hgt : (0 : Int) < (y.mn : Int) := by omega
          have k8 := one_ HP7.out
          have k6 := HY7.out.frozen 0
          have k7 := one_ HY7.out
          clear HT3 hye
          go_wp2_with fail
          refine bodyPost_ret (v := .tuple #[.agg #[.slice L' n c'], .int .i64 26]) (by simp only [results, Tryz.results13]; go_simp) rfl ?_
          refine ⟨_, _, _, _, rfl, OF.less (OF.far HO7.out (p := ⟨w.heap.size + 1, 0, none⟩) (by show w.heap.size + 1 < W1.heap.size; omega) _) (by omega), HRX.out, HB7.out.setCell (p := ⟨w.heap.size + 1, 0, none⟩) (by show w.heap.size ≤ w.heap.size + 1; omega) _⟩
    · have hTe : T = (nds l, E) := by rw [HT1.out, if_neg h0]
      subst hTe
      have hEb : (E != 0) = true := bne_iff_ne.2 h0
      have k5 := one_ HP6.out
      have k6 := HY6.out.frozen 0
      have k7 := one_ HY6.out
      clear HT1 h0
      go_wp2_with fail
      refine bodyPost_ret (v := .tuple #[.agg #[.slice L' n c'], .int .i64 E]) (by simp only [results, Tryz.results13]; go_simp) rfl ?_
      refine ⟨_, _, _, _, rfl, OF.less (OF.far HO6.out (p := ⟨w.heap.size + 1, 0, none⟩) (by show w.heap.size + 1 < W1.heap.size; omega) _) (by omega), HRX.out, HB6.out.setCell (p := ⟨w.heap.size + 1, 0, none⟩) (by show w.heap.size ≤ w.heap.size + 1; omega) _⟩
end Go.Proofs.YtlcoapignfmgcaaGreatDoor
namespace Go.Proofs.YtlcoapignfmgcaaGreatDoor
open Go.RowKit
set_option linter.unusedVariables false
set_option maxRecDepth 100000 in
set_option maxHeartbeats 16000000 in
theorem link_c (L : Option Addr) (n c : Nat) (l : List DV) (i0 d : Int) (s : List UInt8) (w : World) (hF : FsR w w.heap.size L n l) (hB : FewB l) (hsl : s.length ≤ 1000000) :
    Calls Tryz.prog 11 #[.agg #[.slice L n c], .int .i64 i0, .int .i64 d, .string ⟨s.toArray⟩] w (FsEnd w (linkP (nds l) i0 d s).1 [.int .i64 (linkP (nds l) i0 d s).2]) := by
  have hl := hF.len
  have hln : (nds l).length = n := by rw [nds_length, hl]
  obtain ⟨W1, hW1⟩ : ∃ W, (w.alloc (.cells #[.slice L n c] 24)).alloc (.cells #[.slice none 0 0] 24) = W := ⟨_, rfl⟩
  have HX : Hid (Blk W1 w.heap.size 24 #[.slice L n c]) := hide (by rw [← hW1]; exact (Blk.new w _ _).alloc _)
  have HY : Hid (Blk W1 (w.heap.size + 1) 24 #[.slice none 0 0]) := hide (by rw [← hW1]; have := Blk.new (w.alloc (.cells #[.slice L n c] 24)) 24 #[.slice none 0 0]; simpa only [World.size_alloc] using this)
  have b1 : Below w.heap.size w W1 := by rw [← hW1]; exact ((Below.refl _ _).alloc (Nat.le_refl _) _).alloc (by simp) _
  have hsz : w.heap.size + 2 = W1.heap.size := by rw [← hW1]; simp
  have XF := hide (fs_any L n c l W1 ((hF.below b1).more b1.size) (small_of hF hB))
  have HF := hide (fun (W : World) (hW : Below w.heap.size w W) => (hF.below hW).more hW.size)
  have HFW := hide hB
  have HB := hide b1
  have HLN := hide hln
  have HT : Hid (linkP (nds l) i0 d s = if hasP (nds l) [i0, d] then (if (ndAt (nds l) i0).kind = 2 then (nds l, 23) else (if firstP [nameC s, writableP (nds l) d, absentP (nds l) d s] = 0 then (insP (nds l) d s i0, 0) else (nds l, firstP [nameC s, writableP (nds l) d, absentP (nds l) d s]))) else (nds l, 2)) := hide rfl
  generalize linkP (nds l) i0 d s = T at *
  have k0 := one_ HX.out
  have k1 := one_ HY.out
  clear hF hB b1 hl hln
  go_enter Tryz.func11, Tryz.ntmps11
  go_wp2_with (rw [hW1])
  refine XF.out.mono ?_
  rintro e w2 ⟨L', c', X, rfl, hO, hR, hS, hb2⟩
  obtain ⟨W3, hW3⟩ : ∃ W, w2.alloc (.cells #[.slice L' n c'] 24) = W := ⟨_, rfl⟩
  obtain ⟨W4, hW4⟩ : ∃ W, W3.alloc (.cells #[.int .i64 i0, .int .i64 d] 3) = W := ⟨_, rfl⟩
  have b3 : Below w2.heap.size w2 W3 := by rw [← hW3]; exact on_alloc _ _
  have b4 : Below W3.heap.size W3 W4 := by rw [← hW4]; exact on_alloc _ _
  have hp3 : Blk W3 w2.heap.size 24 #[.slice L' n c'] := by rw [← hW3]; exact Blk.new w2 _ _
  have hz2 := hb2.size
  have hz3 := b3.size
  have hz4 := b4.size
  have hpl := hp3.lt
  have hx2 := HX.out.below hb2 HX.out.lt
  have hy2 := HY.out.below hb2 HY.out.lt
  have hx3 := hx2.below b3 hx2.lt
  have hy3 := hy2.below b3 hy2.lt
  have hB3 := (HB.out.trans (hb2.mono (by omega))).trans (b3.mono (by omega))
  have HX4 := hide (hx3.below b4 hx3.lt)
  have HY4 := hide (hy3.below b4 hy3.lt)
  have HP4 := hide (hp3.below b4 hp3.lt)
  have HO4 := hide ((hO.below b3).below b4)
  have HB4 := hide (hB3.trans (b4.mono (by omega)))
  have HRX : Hid (nds X = nds l) := hide hR
  have XR : Reads W4 W4.heap.size 1 (some ⟨W3.heap.size, 0, none⟩) 2 (ivs [i0, d]) := by rw [← hW4]; exact ivs_two W3 i0 d _
  have X5 := hide (has_c L n c l [i0, d] (some ⟨W3.heap.size, 0, none⟩) 2 2 W4 (HF.out W4 HB4.out) HFW.out XR (by omega))
  have k3 := one_ hx3
  clear b3 b4 hO hb2 XF HX HY k0 k1 hR hS HB XR hx2 hy2 hx3 hy3 hp3 hB3
  go_wp2_with (first | rw [hW3] | rw [hW4])
  refine X5.out.mono ?_
  rintro e w5 ⟨rfl, hb5⟩
  have HX5 := hide (HX4.out.below hb5 HX4.out.lt)
  have HY5 := hide (HY4.out.below hb5 HY4.out.lt)
  have HP5 := hide (HP4.out.below hb5 HP4.out.lt)
  have HO5 := hide (HO4.out.below hb5)
  have HB5 := hide (HB4.out.trans (hb5.mono HB4.out.size))
  have hz5 := hb5.size
  clear hb5 X5 k3 hW1 hW3 hW4 HX4 HY4 HP4 HO4 HB4
  cases hh : hasP (nds l) [i0, d] with
  | false =>
    have hTe : T = (nds l, 2) := by rw [HT.out, hh]; rfl
    subst hTe
    have k5 := one_ HP5.out
    have k6 := HY5.out.frozen 0
    have k7 := one_ HY5.out
    clear HT hh
    go_wp2_with fail
    refine bodyPost_ret (v := .tuple #[.agg #[.slice L' n c'], .int .i64 2]) (by simp only [results, Tryz.results11]; go_simp) rfl ?_
    refine ⟨_, _, _, _, rfl, OF.less (OF.far HO5.out (p := ⟨w.heap.size + 1, 0, none⟩) (by show w.heap.size + 1 < W1.heap.size; omega) _) (by omega), HRX.out, HB5.out.setCell (p := ⟨w.heap.size + 1, 0, none⟩) (by show w.heap.size ≤ w.heap.size + 1; omega) _⟩
  | true =>
    obtain ⟨k, rfl, hkl⟩ := hasP_in hh (List.mem_cons_self ..)
    obtain ⟨m, rfl, hml⟩ := hasP_in hh (List.mem_cons_of_mem _ (List.mem_singleton.2 rfl))
    have hck := hasP_check hh
    have HCK := hide hck
    have hm : m < n := by have := HLN.out; omega
    have hk : k < n := by have := HLN.out; omega
    have XW := hide (isdir_c L n c l k w5 (HF.out w5 HB5.out) hk)
    obtain ⟨K0, hK0⟩ : ∃ E, (ndAt (nds l) (k : Int)).kind = E := ⟨_, rfl⟩
    obtain ⟨E, hE⟩ : ∃ E, firstP [nameC s, writableP (nds l) (m : Int), absentP (nds l) (m : Int) s] = E := ⟨_, rfl⟩
    rw [hK0] at XW
    have HT1 : Hid (T = if K0 = 2 then (nds l, 23) else (if E = 0 then (insP (nds l) (m : Int) s (k : Int), 0) else (nds l, E))) := hide (by rw [HT.out, hh, hE, hK0]; rfl)
    have HE := hide hE
    have k5 := one_ HX5.out
    clear HT hh hE hck hK0
    go_wp2_with fail
    refine XW.out.mono ?_
    rintro e w6 ⟨rfl, hb6⟩
    have HX6 := hide (HX5.out.below hb6 HX5.out.lt)
    have HY6 := hide (HY5.out.below hb6 HY5.out.lt)
    have HP6 := hide (HP5.out.below hb6 HP5.out.lt)
    have HO6 := hide (HO5.out.below hb6)
    have HB6 := hide (HB5.out.trans (hb6.mono HB5.out.size))
    have hz6 := hb6.size
    clear hb6 XW k5 HX5 HY5 HP5 HO5 HB5
    by_cases h0 : K0 = 2
    · have hKb : (K0 == 2) = true := beq_iff_eq.2 h0
      have hTe : T = (nds l, 23) := by rw [HT1.out, if_pos h0]
      subst hTe
      have k5 := one_ HP6.out
      have k6 := HY6.out.frozen 0
      have k7 := one_ HY6.out
      clear HT1 h0
      go_wp2_with fail
      refine bodyPost_ret (v := .tuple #[.agg #[.slice L' n c'], .int .i64 23]) (by simp only [results, Tryz.results11]; go_simp) rfl ?_
      refine ⟨_, _, _, _, rfl, OF.less (OF.far HO6.out (p := ⟨w.heap.size + 1, 0, none⟩) (by show w.heap.size + 1 < W1.heap.size; omega) _) (by omega), HRX.out, HB6.out.setCell (p := ⟨w.heap.size + 1, 0, none⟩) (by show w.heap.size ≤ w.heap.size + 1; omega) _⟩
    · have hKb : (K0 == 2) = false := beq_eq_false_iff_ne.2 h0
      have HT2 : Hid (T = if E = 0 then (insP (nds l) (m : Int) s (k : Int), 0) else (nds l, E)) := hide (by rw [HT1.out, if_neg h0])
      have k5 := one_ HX6.out
      clear HT1 h0
      go_wp2_with fail
      refine wp_region_K (fun V => V.cell? ⟨w.heap.size, 0, none⟩ = some (.slice L n c)) [] rfl k5 (fun hHeld => ?_)
      refine wpAnyK_take (i := 0) (v := ?_) rfl rfl (by kernel_rfl) (fun _ _ _ h => h) (Or.inl ⟨by rfl, ?_⟩) (by assumption) ?_
      rotate_left
      · (intro V hV; (try dsimp only at hV); go_simp; with_reducible rfl)
      try simp only [Act.put, List.setIfInBounds_toArray, List.set_cons_zero, List.set_cons_succ]
      refine wpAnyK_take (i := 2) (v := ?_) rfl rfl (by kernel_rfl) (fun _ _ _ h => h) (Or.inl ⟨by rfl, ?_⟩) (by assumption) ?_
      rotate_left
      · (intro V hV; (try dsimp only at hV); go_simp; with_reducible rfl)
      try simp only [Act.put, List.setIfInBounds_toArray, List.set_cons_zero, List.set_cons_succ]
      refine wpAnyK_take (i := 3) (v := ?_) rfl rfl (by kernel_rfl) (fun _ _ _ h => h) (Or.inl ⟨by rfl, ?_⟩) (by assumption) ?_
      rotate_left
      · (intro V hV; (try dsimp only at hV); go_simp; with_reducible rfl)
      try simp only [Act.put, List.setIfInBounds_toArray, List.set_cons_zero, List.set_cons_succ]
      refine wpAnyK_take (i := 5) (v := ?_) rfl rfl (by kernel_rfl) (fun _ _ _ h => h) (Or.inl ⟨by rfl, ?_⟩) (by assumption) ?_
      rotate_left
      · (intro V hV; (try dsimp only at hV); go_simp; with_reducible rfl)
      try simp only [Act.put, List.setIfInBounds_toArray, List.set_cons_zero, List.set_cons_succ]
      refine wpAnyK_take (i := 6) (v := ?_) rfl rfl (by kernel_rfl) (fun _ _ _ h => h) (Or.inl ⟨by rfl, ?_⟩) (by assumption) ?_
      rotate_left
      · (intro V hV; (try dsimp only at hV); go_simp; with_reducible rfl)
      try simp only [Act.put, List.setIfInBounds_toArray, List.set_cons_zero, List.set_cons_succ]
      refine wpAnyK_take (i := 7) (v := ?_) rfl rfl (by kernel_rfl) (fun _ _ _ h => h) (Or.inl ⟨by rfl, ?_⟩) (by assumption) ?_
      rotate_left
      · (intro V hV; (try dsimp only at hV); go_simp; with_reducible rfl)
      try simp only [Act.put, List.setIfInBounds_toArray, List.set_cons_zero, List.set_cons_succ]
      have hb7 : Below w6.heap.size w6 w6.drew := (Below.refl _ _).drew
      have HX7 := hide (HX6.out.below hb7 HX6.out.lt)
      have HY7 := hide (HY6.out.below hb7 HY6.out.lt)
      have HP7 := hide (HP6.out.below hb7 HP6.out.lt)
      have HO7 := hide (HO6.out.below hb7)
      have HB7 := hide (HB6.out.trans (hb7.mono HB6.out.size))
      have hz7 := hb7.size
      clear hb7 k5 HX6 HY6 HP6 HO6 HB6
      refine wpAnyK_step (i := 1) (by kernel_rfl) rfl rfl (fun K hK => ?_)
      go_simp
      refine (name_c s _ (by omega)).mono ?_
      rintro e w8 ⟨rfl, hb8⟩
      have HX8 := hide (HX7.out.below hb8 HX7.out.lt)
      have HY8 := hide (HY7.out.below hb8 HY7.out.lt)
      have HP8 := hide (HP7.out.below hb8 HP7.out.lt)
      have HO8 := hide (HO7.out.below hb8)
      have HB8 := hide (HB7.out.trans (hb8.mono HB7.out.size))
      have hz8 := hb8.size
      clear hb8 hHeld HX7 HY7 HP7 HO7 HB7
      have k5 := one_ HX8.out
      refine hK.out _ _ (fun _ _ => k5) ?_
      clear hK K
      simp only [List.setIfInBounds_toArray]
      refine wpAnyK_step (i := 4) (by kernel_rfl) rfl rfl (fun K hK => ?_)
      go_simp
      refine (writable_c L n c l m _ (HF.out _ HB8.out) hm (at_mode HCK.out hml)).mono ?_
      rintro e w9 ⟨rfl, hb9⟩
      clear k5
      have HX9 := hide (HX8.out.below hb9 HX8.out.lt)
      have HY9 := hide (HY8.out.below hb9 HY8.out.lt)
      have HP9 := hide (HP8.out.below hb9 HP8.out.lt)
      have HO9 := hide (HO8.out.below hb9)
      have HB9 := hide (HB8.out.trans (hb9.mono HB8.out.size))
      have hz9 := hb9.size
      clear hb9  HX8 HY8 HP8 HO8 HB8
      have k5 := one_ HX9.out
      refine hK.out _ _ (fun _ _ => k5) ?_
      clear hK K
      simp only [List.setIfInBounds_toArray]
      refine wpAnyK_step (i := 8) (by kernel_rfl) rfl rfl (fun K hK => ?_)
      go_simp
      refine (absent_c L n c l m s _ (HF.out _ HB9.out) HFW.out hm (at_sorted HCK.out hml)).mono ?_
      rintro e w10 ⟨rfl, hb10⟩
      clear k5
      have HX10 := hide (HX9.out.below hb10 HX9.out.lt)
      have HY10 := hide (HY9.out.below hb10 HY9.out.lt)
      have HP10 := hide (HP9.out.below hb10 HP9.out.lt)
      have HO10 := hide (HO9.out.below hb10)
      have HB10 := hide (HB9.out.trans (hb10.mono HB9.out.size))
      have hz10 := hb10.size
      clear hb10  HX9 HY9 HP9 HO9 HB9
      have k5 := one_ HX10.out
      refine hK.out _ _ (fun _ _ => k5) ?_
      clear hK K
      simp only [List.setIfInBounds_toArray]
      obtain ⟨e1, he1⟩ : ∃ e, nameC s = e := ⟨_, rfl⟩
      obtain ⟨e2, he2⟩ : ∃ e, writableP (nds l) (m : Int) = e := ⟨_, rfl⟩
      obtain ⟨e3, he3⟩ : ∃ e, absentP (nds l) (m : Int) s = e := ⟨_, rfl⟩
      rw [he1, he2, he3] at HE
      rw [he1, he2, he3]
      obtain ⟨W11, hW11⟩ : ∃ W, w10.alloc (.cells #[.int .i64 e1, .int .i64 e2, .int .i64 e3] 32) = W := ⟨_, rfl⟩
      have hb11 : Below w10.heap.size w10 W11 := by rw [← hW11]; exact on_alloc _ _
      have XR : Reads W11 W11.heap.size 1 (some ⟨w10.heap.size, 0, none⟩) 3 (ivs [e1, e2, e3]) := by rw [← hW11]; exact ivs_three w10 e1 e2 e3 _
      have X1 := hide (first_any [e1, e2, e3] (some ⟨w10.heap.size, 0, none⟩) 3 3 W11.heap.size W11 XR (by omega))
      rw [HE.out] at X1
      refine wpAnyK_step (i := 9) (by kernel_rfl) rfl rfl (fun K hK => ?_)
      go_simp
      try rw [hW11]
      clear k5 XR
      have HX11 := hide (HX10.out.below hb11 HX10.out.lt)
      have HY11 := hide (HY10.out.below hb11 HY10.out.lt)
      have HP11 := hide (HP10.out.below hb11 HP10.out.lt)
      have HO11 := hide (HO10.out.below hb11)
      have HB11 := hide (HB10.out.trans (hb11.mono HB10.out.size))
      have hz11 := hb11.size
      clear hb11 hW11 HX10 HY10 HP10 HO10 HB10
      have k5 := one_ HX11.out
      refine hK.out _ _ (fun _ _ => k5) ?_
      clear hK K
      simp only [List.setIfInBounds_toArray]
      refine wpAnyK_step (i := 10) (by kernel_rfl) rfl rfl (fun K hK => ?_)
      go_simp
      refine X1.out.mono ?_
      rintro e w12 ⟨rfl, rfl⟩
      refine hK.out _ _ (fun _ _ => k5) ?_
      clear hK K
      simp only [List.setIfInBounds_toArray]
      refine wpAnyK_takeF (i := 11) (v := ?_) rfl rfl (by kernel_rfl) (fun _ _ _ h => h) (Or.inl ⟨by rfl, ?_⟩) ?_
      rotate_left
      · (intro V hV; go_simp; with_reducible rfl)
      try simp only [Act.put, List.setIfInBounds_toArray, List.set_cons_zero, List.set_cons_succ]
      refine wpAnyK_done (by kernel_rfl) ?_ _
      clear k5 X1
      by_cases h0 : E = 0
      · subst h0
        have hTe : T = (insP (nds l) (m : Int) s (k : Int), 0) := by rw [HT2.out, if_pos rfl]
        subst hTe
        obtain ⟨g, rfl, hgB, hgl⟩ := HO11.out.addr (by omega)
        have XM := hide (insert_c W1.heap.size w2.heap.size g n c' m k X s W11 HO11.out HP11.out (by omega) (own_small HO11.out HFW.out HRX.out HCK.out) hm hk)
        clear HT2
        go_wp2_with fail
        refine XM.out.mono ?_
        rintro e w8 ⟨rfl, X', hO8, hR8, hP8, hb8⟩
        have HO12 := hide hO8
        have HR8 : Hid (nds X' = insP (nds l) (m : Int) s (k : Int)) := hide (by rw [hR8, HRX.out])
        have HP8 := hide hP8
        have HY8 := hide (HY11.out.below hb8 (by have := HY11.out.lt; omega))
        have HB12 := hide (HB11.out.trans (hb8.mono (by omega)))
        have k8 := one_ HP8.out
        have k6 := HY8.out.frozen 0
        have k7 := one_ HY8.out
        clear hO8 hR8 hP8 hb8 XM HX11 HY11 HP11 HO11 HB11
        go_wp2_with fail
        refine bodyPost_ret (v := .tuple #[.agg #[.slice (some ⟨g, 0, none⟩) n c'], .int .i64 0]) (by simp only [results, Tryz.results11]; go_simp) rfl ?_
        refine ⟨_, _, _, _, rfl, OF.less (OF.far HO12.out (p := ⟨w.heap.size + 1, 0, none⟩) (by show w.heap.size + 1 < W1.heap.size; omega) _) (by omega), HR8.out, HB12.out.setCell (p := ⟨w.heap.size + 1, 0, none⟩) (by show w.heap.size ≤ w.heap.size + 1; omega) _⟩
      · have hEb : (E != 0) = true := bne_iff_ne.2 h0
        have hTe : T = (nds l, E) := by rw [HT2.out, if_neg h0]
        subst hTe
        have k5 := one_ HP11.out
        have k6 := HY11.out.frozen 0
        have k7 := one_ HY11.out
        clear HT2 h0
        go_wp2_with fail
        refine bodyPost_ret (v := .tuple #[.agg #[.slice L' n c'], .int .i64 E]) (by simp only [results, Tryz.results11]; go_simp) rfl ?_
        refine ⟨_, _, _, _, rfl, OF.less (OF.far HO11.out (p := ⟨w.heap.size + 1, 0, none⟩) (by show w.heap.size + 1 < W1.heap.size; omega) _) (by omega), HRX.out, HB11.out.setCell (p := ⟨w.heap.size + 1, 0, none⟩) (by show w.heap.size ≤ w.heap.size + 1; omega) _⟩
end Go.Proofs.YtlcoapignfmgcaaGreatDoor
namespace Go.Proofs.YtlcoapignfmgcaaGreatDoor
open Go.RowKit
set_option linter.unusedVariables false
set_option maxRecDepth 100000 in
set_option maxHeartbeats 4000000 in
theorem new_blk (w : World) : Calls Tryz.prog 57 #[] w fun e w' => e = .returned (.agg #[.slice (some ⟨w.heap.size + 1, 0, none⟩) 1 1]) ∧ Blk w' (w.heap.size + 1) 28 rootV.cs.toArray ∧ Below w.heap.size w w' := by
  go_enter Tryz.func57, Tryz.ntmps57
  go_wp2_with fail
  obtain ⟨W2, hW2⟩ : ∃ W, ((w.alloc (.cells #[.slice (some ⟨w.heap.size + 1, 0, none⟩) 1 1] 24)).alloc (.cells rootV.cs.toArray 28)) = W := ⟨_, rfl⟩
  have h1 : Blk W2 w.heap.size 24 #[.slice (some ⟨w.heap.size + 1, 0, none⟩) 1 1] := by rw [← hW2]; exact (Blk.new w _ _).alloc _
  have h2 : Blk W2 (w.heap.size + 1) 28 rootV.cs.toArray := by
    have := Blk.new (w.alloc (.cells #[.slice (some ⟨w.heap.size + 1, 0, none⟩) 1 1] 24)) 28 rootV.cs.toArray
    rw [hW2] at this
    simpa using this
  have hb : Below w.heap.size w W2 := by rw [← hW2]; exact (on_alloc w _).trans ((on_alloc _ _).mono (by simp))
  have HEND := hide (And.intro h2 hb)
  have k0 := one_ h1
  unfold rootV DV.cs at hW2
  dsimp only at hW2
  rw [show (([] : List UInt8).toArray) = #[] from rfl] at hW2
  clear h1 h2 hb
  rw [hW2]
  refine bodyPost_ret (v := .agg #[.slice (some ⟨w.heap.size + 1, 0, none⟩) 1 1]) (by simp only [results, Tryz.results57]; go_simp) rfl ⟨rfl, HEND.out⟩
def nameN : NM := ⟨[110], 1⟩
def rootN : ND := ⟨2, 7, 1, [], [nameN], []⟩
theorem creat_eq (n : ND) : creatableP n = (n.names.isEmpty && checkB [rootN, { n with links := 1 }]) := rfl
theorem infoNodeC : (Tryz.prog.info? 28).map (fun i => (i.zero, i.size, i.bytes)) = some (some (.agg #[.int .i64 0, .int .i64 0, .int .i64 0, .slice none 0 0, .slice none 0 0, .string ⟨#[]⟩]), 6, 88) := infoNodeZ
/-- A node whose names' lengths do not matter. -/
structure FewT (x : DV) : Prop where
  d : x.r.data.length ≤ 5000
  tt : x.r.to.length ≤ 600
  n : x.r.names.length ≤ 200
theorem FewN.t {x : DV} (h : FewN x) : FewT x := ⟨h.d, h.to, h.n⟩
theorem fewB_two {x : DV} {A : Option Addr} {a b : Nat} (hx : FewT x) (hn : x.r.names = []) : FewB [⟨rootN, none, 0, 0, A, a, b⟩, ⟨{ x.r with links := 1 }, x.D, x.dn, x.dc, x.M, x.mn, x.mc⟩] := by
  refine ⟨by simp, fun y hy => ?_, ?_⟩
  · rcases List.mem_cons.1 hy with rfl | hy
    · exact ⟨by simp [rootN], by simp [rootN], by simp [rootN], fun z hz => by simp [rootN, nameN] at hz; subst hz; simp⟩
    · rw [List.mem_singleton.1 hy]
      exact ⟨hx.d, hx.tt, hx.n, fun z hz => by rw [hn] at hz; cases hz⟩
  · simp [upto, rootN, hn]
set_option maxRecDepth 100000 in
set_option maxHeartbeats 16000000 in
theorem creatable_c (x : DV) (w : World) (hok : DVok w w.heap.size x) (hx : FewT x) :
    Calls Tryz.prog 29 #[.agg x.cs.toArray] w fun e w' => e = .returned (.bool (creatableP x.r)) ∧ Below w.heap.size w w' := by
  rw [creat_eq]
  have hnl := hok.nl
  obtain ⟨W1, hW1⟩ : ∃ W, w.alloc (.cells x.cs.toArray 28) = W := ⟨_, rfl⟩
  have b1 : Below w.heap.size w W1 := by rw [← hW1]; exact on_alloc _ _
  have hz1 : W1.heap.size = w.heap.size + 1 := by rw [← hW1]; simp
  have h1 : Blk W1 w.heap.size 28 x.cs.toArray := by rw [← hW1]; exact Blk.new w _ _
  obtain ⟨W2, hW2⟩ : ∃ W, W1.setCell ⟨w.heap.size, 2, none⟩ (.int .i64 1) = W := ⟨_, rfl⟩
  have b2 : Below w.heap.size w W2 := by rw [← hW2]; exact b1.setCell (p := ⟨w.heap.size, 2, none⟩) (Nat.le_refl _) _
  have hz2 : W2.heap.size = w.heap.size + 1 := by rw [← hW2]; simpa using hz1
  have h2 : Blk W2 w.heap.size 28 (DV.cs ⟨{ x.r with links := 1 }, x.D, x.dn, x.dc, x.M, x.mn, x.mc⟩).toArray := by
    rw [← hW2]
    exact h1.set_ 2 (.int .i64 1)
  have XN := hide (new_blk W2)
  have HOK := hide hok
  have HFX := hide hx
  have H2 := hide h2
  have HB1 := hide b1
  have HB2 := hide b2
  have HNL := hide hnl
  obtain ⟨⟨kd, md, lk, da, nm, tt⟩, D, dn, dc, M, mn, mc⟩ := x
  unfold DV.cs at h1 h2 hW1
  dsimp only at h1 h2 hW1 hnl
  unfold DV.cs
  dsimp only
  have k1 := six h1
  have f2 := h1.frozen 2
  clear b1 b2 hok hx
  by_cases h0 : mn = 0
  · subst h0
    have hne : nm = [] := List.eq_nil_of_length_eq_zero hnl
    subst hne
    obtain ⟨a0, a1, a2, a3, a4, a5⟩ := k1
    have HZ := hide hz2
    clear h1 h2 hnl hz1 hz2
    go_enter Tryz.func29, Tryz.ntmps29
    go_wp2_with (first | rw [hW1] | rw [hW2])
    refine XN.out.mono ?_
    rintro e w3 ⟨rfl, hN3, hb3⟩
    have hgl := hN3.lt
    have hz3 := hb3.size
    have hz2 := HZ.out
    obtain ⟨W4, hW4⟩ : ∃ W, w3.alloc (.cells #[.slice (some ⟨W2.heap.size + 1, 0, none⟩) 1 1] 24) = W := ⟨_, rfl⟩
    obtain ⟨W5, hW5⟩ : ∃ W, W4.alloc (.cells #[.string ⟨#[110]⟩, .int .i64 1] 59) = W := ⟨_, rfl⟩
    obtain ⟨W6, hW6⟩ : ∃ W, W5.setCell ⟨W2.heap.size + 1, 4, none⟩ (.slice (some ⟨W4.heap.size, 0, none⟩) 1 1) = W := ⟨_, rfl⟩
    obtain ⟨W7, hW7⟩ : ∃ W, W6.alloc (.cells #[.int .i64 kd, .int .i64 md, .int .i64 1, .slice D dn dc, .slice M 0 mc, .string ⟨tt.toArray⟩] 28) = W := ⟨_, rfl⟩
    have z4 : W4.heap.size = w3.heap.size + 1 := by rw [← hW4]; simp
    have z5 : W5.heap.size = w3.heap.size + 2 := by rw [← hW5]; simp [z4]
    have z6 : W6.heap.size = w3.heap.size + 2 := by rw [← hW6]; simp [z5]
    have z7 : W7.heap.size = w3.heap.size + 3 := by rw [← hW7]; simp [z6]
    have b4 : Below w3.heap.size w3 W4 := by rw [← hW4]; exact on_alloc _ _
    have b5 : Below W4.heap.size W4 W5 := by rw [← hW5]; exact on_alloc _ _
    have b6 : Below W2.heap.size W5 W6 := by rw [← hW6]; exact (Below.refl _ _).setCell (p := ⟨W2.heap.size + 1, 4, none⟩) (by show W2.heap.size ≤ W2.heap.size + 1; omega) _
    have b7 : Below W6.heap.size W6 W7 := by rw [← hW7]; exact on_alloc _ _
    have n4 := hN3.below b4 hgl
    have n5 := n4.below b5 (by omega)
    have n6 : Blk W6 (W2.heap.size + 1) 28 #[.int .i64 2, .int .i64 7, .int .i64 1, .slice none 0 0, .slice (some ⟨W4.heap.size, 0, none⟩) 1 1, .string ⟨#[]⟩] := by rw [← hW6]; exact n5.set_ 4 _
    have n7 := n6.below b7 (by omega)
    have p4 : Blk W4 w3.heap.size 24 #[.slice (some ⟨W2.heap.size + 1, 0, none⟩) 1 1] := by rw [← hW4]; exact Blk.new w3 _ _
    have p5 := p4.below b5 (by omega)
    have p6 : Blk W6 w3.heap.size 24 #[.slice (some ⟨W2.heap.size + 1, 0, none⟩) 1 1] := by rw [← hW6]; exact p5.far (p := ⟨W2.heap.size + 1, 4, none⟩) (by show w3.heap.size ≠ W2.heap.size + 1; omega) _
    have p7 := p6.below b7 (by omega)
    have q5 : Blk W5 W4.heap.size 59 #[.string ⟨#[110]⟩, .int .i64 1] := by rw [← hW5]; exact Blk.new W4 _ _
    have q6 : Blk W6 W4.heap.size 59 #[.string ⟨#[110]⟩, .int .i64 1] := by rw [← hW6]; exact q5.far (p := ⟨W2.heap.size + 1, 4, none⟩) (by show W4.heap.size ≠ W2.heap.size + 1; omega) _
    have q7 := q6.below b7 (by omega)
    have r7 : Blk W7 W6.heap.size 28 #[.int .i64 kd, .int .i64 md, .int .i64 1, .slice D dn dc, .slice M 0 mc, .string ⟨tt.toArray⟩] := by rw [← hW7]; exact Blk.new W6 _ _
    have bb6 : Below W2.heap.size W2 W6 := ((hb3.trans (b4.mono hz3)).trans (b5.mono (by omega))).trans b6
    have x6 := H2.out.below bb6 H2.out.lt
    have bw7 : Below w.heap.size w W7 := (HB2.out.trans (bb6.mono (by omega))).trans (b7.mono (by omega))
    have k4 := one_ p4
    have k6 := one_ p6
    have n5f := n5.frozen 4
    have n5c := n5.cell 4
    obtain ⟨y0, y1, y2, y3, y4, y5⟩ := six x6
    have N7 := hide n7
    have P7 := hide p7
    have Q7 := hide q7
    have R7 := hide r7
    have BW7 := hide bw7
    have k4b := one_ p5
    have HZ7 := hide z7
    have HZ6 := hide z6
    have HZ3 := hide hz3
    have HW4 := hide z4
    clear hz2 z4 z5 z6 z7 hz3 XN H2 hN3 hb3 b4 b5 b6 b7 n4 n5 n6 n7 p4 p5 p6 p7 q5 q6 q7 r7 bb6 x6 bw7 HB1 HB2 a0 a1 a2 a3 a4 a5 f2
    obtain ⟨i0, hi, hzz0, hzz1, hzz2⟩ := info_parts infoNodeC
    go_wp2_with (first | (at_builtin; (refine wpList_append_grows _ rfl (.tmp 17) (.tmp 19) 22 rfl 28 i0 _ 6 88 Tryz.underlying22 hi hzz0 hzz1 hzz2 rfl (by omega) (some ⟨W2.heap.size + 1, 0, none⟩) 1 1 [.int .i64 2, .int .i64 7, .int .i64 1, .slice none 0 0, .slice (some ⟨W4.heap.size, 0, none⟩) 1 1, .string ⟨#[]⟩] rfl ?c1 ?c2 ?c3 ⟨W6.heap.size, 0, none⟩ 1 1 [.int .i64 kd, .int .i64 md, .int .i64 1, .slice D dn dc, .slice M 0 mc, .string ⟨tt.toArray⟩] rfl rfl ?c4 ?c5 (by omega) ?c6 ?c7 ?_)) | rw [hW4] | rw [hW5] | rw [hW6] | rw [hW7])
    case c1 => intro h; cases h
    case c2 => rfl
    case c3 =>
      intro b hb j u hj
      injection hb with hb
      subst hb
      rw [Addr.add_lit, Nat.zero_add]
      exact (N7.out.cell j).trans (by rw [List.getElem?_toArray]; exact hj)
    case c4 =>
      intro j u hj
      rw [Addr.add_lit, Nat.zero_add]
      exact (R7.out.cell j).trans (by rw [List.getElem?_toArray]; exact hj)
    case c5 =>
      intro u hu
      simp only [List.mem_cons, List.not_mem_nil, or_false] at hu
      rcases hu with rfl | rfl | rfl | rfl | rfl | rfl <;> rfl
    case c6 => unfold maxLen; omega
    case c7 => omega
    intro v1 w8 hown1 hg8
    have b8 : Below W7.heap.size W7 w8 := (Below.refl _ _).grown hg8 (Nat.le_refl _) (by simp)
    obtain ⟨A1, cc1, rfl⟩ := own_slice hown1
    have z6 := HZ6.out
    have z7 := HZ7.out
    have z3 := HZ3.out
    have z2 := HZ.out
    have p8 := P7.out.below b8 P7.out.lt
    have q8 := Q7.out.below b8 Q7.out.lt
    obtain ⟨W9, hW9⟩ : ∃ W, w8.setCell ⟨w3.heap.size, 0, none⟩ (.slice A1 2 cc1) = W := ⟨_, rfl⟩
    have p9 : Blk W9 w3.heap.size 24 #[.slice A1 2 cc1] := by rw [← hW9]; exact p8.set_ 0 _
    have q9 : Blk W9 W4.heap.size 59 #[.string ⟨#[110]⟩, .int .i64 1] := by rw [← hW9]; exact q8.far (p := ⟨w3.heap.size, 0, none⟩) (by show W4.heap.size ≠ w3.heap.size; have := HW4.out; omega) _
    have b9 : Below w.heap.size w W9 := by rw [← hW9]; exact (BW7.out.trans (b8.mono (by omega))).setCell (p := ⟨w3.heap.size, 0, none⟩) (by show w.heap.size ≤ w3.heap.size; omega) _
    have own9 : W9.ownsRow W7.heap.size 28 6 (.slice A1 2 cc1) 2 (dcs [⟨rootN, none, 0, 0, some ⟨W4.heap.size, 0, none⟩, 1, 1⟩, ⟨⟨kd, md, 1, da, [], tt⟩, D, dn, dc, M, 0, mc⟩]) := by rw [← hW9]; exact own_far hown1 (p := ⟨w3.heap.size, 0, none⟩) (by show w3.heap.size < W7.heap.size; omega) _
    have rn : Reads W9 W9.heap.size 2 (some ⟨W4.heap.size, 0, none⟩) 1 (ncs [nameN]) := ⟨rfl, fun _ => ⟨_, rfl, q9.lt, fun j u hj => by
      rw [Addr.add_lit, Nat.zero_add]
      exact (q9.cell j).trans (by rw [List.getElem?_toArray]; exact hj)⟩⟩
    have fs9 : FsR W9 W9.heap.size A1 2 [⟨rootN, none, 0, 0, some ⟨W4.heap.size, 0, none⟩, 1, 1⟩, ⟨⟨kd, md, 1, da, [], tt⟩, D, dn, dc, M, 0, mc⟩] := ⟨Reads.of_own own9, fun y hy => by
      rcases List.mem_cons.1 hy with rfl | hy
      · exact ⟨Reads.none_, rn⟩
      · rw [List.mem_singleton.1 hy]
        exact ⟨(HOK.out.d.below b9).more b9.size, (HOK.out.n.below b9).more b9.size⟩⟩
    have XC := hide (check_any A1 2 cc1 _ W9 fs9 (fewB_two HFX.out rfl))
    have p8c := one_ p8
    have p8f := p8.frozen 0
    have p9c := one_ p9
    have B9 := hide b9
    have hcr : Hid (checkB (nds [⟨rootN, none, 0, 0, some ⟨W4.heap.size, 0, none⟩, 1, 1⟩, ⟨⟨kd, md, 1, da, [], tt⟩, D, dn, dc, M, 0, mc⟩]) = (([] : List NM).isEmpty && checkB [rootN, ⟨kd, md, 1, da, [], tt⟩])) := hide rfl
    clear hown1 hg8 b8 p8 q8 p9 q9 b9 own9 rn fs9 z6 z7 z3 z2
    go_wp2_with (rw [hW9])
    refine XC.out.mono ?_
    rintro e w10 ⟨rfl, hb10⟩
    have B10 := hide (B9.out.trans (hb10.mono B9.out.size))
    rw [hcr.out]
    clear hb10 XC
    go_wp2_with fail
    go_ret
    exact ⟨rfl, B10.out⟩
  · have hgt : (0 : Int) < (mn : Int) := by omega
    have hne : nm.isEmpty = false := by cases nm; simp at hnl; omega; rfl
    rw [hne, Bool.false_and]
    obtain ⟨a0, a1, a2, a3, a4, a5⟩ := k1
    clear h1 h2 hnl hne
    go_enter Tryz.func29, Tryz.ntmps29
    go_wp2_with (rw [hW1])
    go_ret
    exact ⟨rfl, HB1.out⟩
end Go.Proofs.YtlcoapignfmgcaaGreatDoor
namespace Go.Proofs.YtlcoapignfmgcaaGreatDoor
open Go.RowKit
set_option linter.unusedVariables false
theorem Reads.off_grown {w w' : World} {size n m c : Nat} {A L : Option Addr} {xs : List Value} (h : Reads w w.heap.size size A n xs) (ho : ∀ a, L = some a → Off A n a.block) (hg : w.grownBy w' (Value.slice L m c).ownBlock) : Reads w' w'.heap.size size A n xs := by
  refine ⟨h.1, fun hn => ?_⟩
  obtain ⟨ad, e, hb, hc⟩ := h.2 hn
  refine ⟨ad, e, Nat.lt_of_lt_of_le hb hg.size, fun j u hj => ?_⟩
  rw [← hc j u hj]
  refine World.cell?_of_block (hg.block _ (by rw [block_of_add]; exact hb) (fun he => ?_))
  rw [block_of_add] at he
  cases L with
  | none => simp [Value.ownBlock] at he
  | some a =>
    have : ad.block = a.block := by simpa [Value.ownBlock] using he
    exact ho a rfl hn ad e this
theorem OF.push {B : Nat} {w w' : World} {L L' : Option Addr} {n c c' : Nat} {X : List DV} {y : DV} (h : OF B w L n c X) (hy : DVok w w.heap.size y) (hyo : ∀ a, L = some a → Off y.D y.dn a.block ∧ Off y.M y.mn a.block)
    (hyl : Lo y.D y.dn B ∧ Lo y.M y.mn B ∧ y.dn ≤ y.dc ∧ y.mn ≤ y.mc) (hown : w'.ownsRow B 28 6 (.slice L' (n + 1) c') (n + 1) (dcs X ++ y.cs)) (hg : w.grownBy w' (Value.slice L n c).ownBlock)
    (hat : (Value.slice L' (n + 1) c').ownBlock = (Value.slice L n c).ownBlock ∨ (Value.slice L' (n + 1) c').ownBlock = some w.heap.size) : OF B w' L' (n + 1) c' (X ++ [y]) := by
  have key : ∀ x, DVok w w.heap.size x → (∀ a, L = some a → Off x.D x.dn a.block ∧ Off x.M x.mn a.block) → DVok w' w'.heap.size x := fun x hx ho =>
    ⟨hx.d.off_grown (fun a ha => (ho a ha).1) hg, hx.n.off_grown (fun a ha => (ho a ha).2) hg⟩
  have koff : ∀ x, DVok w w.heap.size x → (∀ a, L = some a → Off x.D x.dn a.block ∧ Off x.M x.mn a.block) → ∀ a, L' = some a → Off x.D x.dn a.block ∧ Off x.M x.mn a.block := fun x hx ho a ha => by
    subst ha
    rcases hat with e | e
    · cases L with
      | none => simp [Value.ownBlock] at e
      | some b =>
        have e' : a.block = b.block := by simpa [Value.ownBlock] using e
        rw [e']
        exact ho b rfl
    · have e' : a.block = w.heap.size := by simpa [Value.ownBlock] using e
      rw [e']
      refine ⟨fun hn ad hA hE => ?_, fun hn ad hA hE => ?_⟩
      · obtain ⟨ad', h1, h2, _⟩ := hx.d.2 hn
        rw [hA] at h1; injection h1 with h1; subst h1; omega
      · obtain ⟨ad', h1, h2, _⟩ := hx.n.2 hn
        rw [hA] at h1; injection h1 with h1; subst h1; omega
  have hap : dcs (X ++ [y]) = dcs X ++ y.cs := by
    clear hown hg hat key koff hyl hyo hy h
    induction X with
    | nil => simp [dcs]
    | cons a t ih => simp [dcs, ih]
  refine ⟨by rw [hap]; exact hown, fun x hx => ?_, fun a ha x hx => ?_, fun x hx => ?_⟩
  · rcases List.mem_append.1 hx with hx | hx
    · exact key x (h.ok x hx) (fun a ha => h.off a ha x hx)
    · rw [List.mem_singleton.1 hx]; exact key y hy hyo
  · rcases List.mem_append.1 hx with hx | hx
    · exact koff x (h.ok x hx) (fun a ha => h.off a ha x hx) a ha
    · rw [List.mem_singleton.1 hx]; exact koff y hy hyo a ha
  · rcases List.mem_append.1 hx with hx | hx
    · exact h.lo x hx
    · rw [List.mem_singleton.1 hx]; exact hyl
end Go.Proofs.YtlcoapignfmgcaaGreatDoor
namespace Go.Proofs.YtlcoapignfmgcaaGreatDoor
open Go.RowKit
set_option linter.unusedVariables false
theorem off_of {w : World} {size n : Nat} {A : Option Addr} {xs : List Value} {B p : Nat} (h : Reads w B size A n xs) (hp : B ≤ p) : Off A n p := fun hn ad e he => by
  obtain ⟨ad', h1, h2, _⟩ := h.2 hn
  rw [e] at h1; injection h1 with h1; subst h1; omega
theorem OF.aside {B : Nat} {w : World} {L : Option Addr} {n c : Nat} {X : List DV} (h : OF B w L n c X) {p : Addr} {t : TypeId} {cs : Array Value} (hp : Blk w p.block t cs) (hne : 28 ≠ t) (ho : ∀ x ∈ X, Off x.D x.dn p.block ∧ Off x.M x.mn p.block) (u : Value) : OF B (w.setCell p u) L n c X := by
  refine ⟨own_set_blk h.own hp hne u, fun x hx => ?_, h.off, h.lo⟩
  have hs : (w.setCell p u).heap.size = w.heap.size := by simp
  rw [hs]
  exact ⟨Reads.far (h.ok x hx).d (ho x hx).1 u, Reads.far (h.ok x hx).n (ho x hx).2 u⟩
set_option maxRecDepth 100000 in
set_option maxHeartbeats 16000000 in
theorem create_c (L : Option Addr) (n c : Nat) (l : List DV) (d : Int) (s : List UInt8) (x : DV) (w : World) (hF : FsR w w.heap.size L n l) (hB : FewB l) (hsl : s.length ≤ 1000000) (hok : DVok w w.heap.size x) (hfx : FewT x) :
    Calls Tryz.prog 9 #[.agg #[.slice L n c], .int .i64 d, .string ⟨s.toArray⟩, .agg x.cs.toArray] w (FsEnd w (createP (nds l) d s x.r).1 [.int .i64 (createP (nds l) d s x.r).2.1, .int .i64 (createP (nds l) d s x.r).2.2]) := by
  have hl := hF.len
  have hln : (nds l).length = n := by rw [nds_length, hl]
  obtain ⟨W1, hW1⟩ : ∃ W, ((w.alloc (.cells #[.slice L n c] 24)).alloc (.cells x.cs.toArray 28)).alloc (.cells #[.slice none 0 0] 24) = W := ⟨_, rfl⟩
  have HX : Hid (Blk W1 w.heap.size 24 #[.slice L n c]) := hide (by rw [← hW1]; exact ((Blk.new w _ _).alloc _).alloc _)
  have HN : Hid (Blk W1 (w.heap.size + 1) 28 x.cs.toArray) := hide (by rw [← hW1]; have := (Blk.new (w.alloc (.cells #[.slice L n c] 24)) 28 x.cs.toArray).alloc (.cells #[.slice none 0 0] 24); simpa only [World.size_alloc] using this)
  have HY : Hid (Blk W1 (w.heap.size + 2) 24 #[.slice none 0 0]) := hide (by rw [← hW1]; have := Blk.new ((w.alloc (.cells #[.slice L n c] 24)).alloc (.cells x.cs.toArray 28)) 24 #[.slice none 0 0]; simpa only [World.size_alloc] using this)
  have b1 : Below w.heap.size w W1 := by rw [← hW1]; exact (((Below.refl _ _).alloc (Nat.le_refl _) _).alloc (by simp) _).alloc (by simp; omega) _
  have hsz : w.heap.size + 3 = W1.heap.size := by rw [← hW1]; simp
  have XF := hide (fs_any L n c l W1 ((hF.below b1).more b1.size) (small_of hF hB))
  have HF := hide (fun (W : World) (hW : Below w.heap.size w W) => (hF.below hW).more hW.size)
  have HK := hide (fun (W : World) (hW : Below w.heap.size w W) => (hok.below hW).more hW.size)
  have HFW := hide hB
  have HFX := hide hfx
  have HB := hide b1
  have HLN := hide hln
  have HSZ := hide hsz
  have HNL := hide (And.intro hok.nl hok.dl)
  have HT : Hid (createP (nds l) d s x.r = if hasP (nds l) [d] && creatableP x.r then (if firstP [nameC s, writableP (nds l) d, absentP (nds l) d s] = 0 then (if 256 ≤ (nds l).length then (nds l, 0, 35) else (insP (nds l ++ [{ x.r with links := 0 }]) d s (nds l).length, ((nds l).length : Int), 0)) else (nds l, 0, firstP [nameC s, writableP (nds l) d, absentP (nds l) d s])) else (nds l, 0, 2)) := hide rfl
  generalize createP (nds l) d s x.r = T at *
  have HCR := hide (fun (W : World) (hW : Below w.heap.size w W) => creatable_c x W (HK.out W hW) hfx)
  have HCN := hide (fun (W : World) (hW : Below w.heap.size w W) => cnode_any x W (HK.out W hW) (by have h1 := hfx.n; have h2 := hfx.d; have h3 := hok.nl; have h4 := hok.dl; omega))
  have k0 := one_ HX.out
  have k1 := one_ HY.out
  clear hF hB b1 hl hln hsz hok hfx
  obtain ⟨⟨kd, md, lk, da, nm, tt⟩, D, dn, dc, M, mn, mc⟩ := x
  unfold DV.cs at HN hW1 HCR HCN
  dsimp only at HN hW1 HCR HCN HNL HT
  unfold DV.cs
  dsimp only
  go_enter Tryz.func9, Tryz.ntmps9
  go_wp2_with (rw [hW1])
  refine XF.out.mono ?_
  rintro e w2 ⟨L', c', X, rfl, hO, hR, hS, hb2⟩
  have hsz := HSZ.out
  obtain ⟨W3, hW3⟩ : ∃ W, w2.alloc (.cells #[.slice L' n c'] 24) = W := ⟨_, rfl⟩
  obtain ⟨W4, hW4⟩ : ∃ W, W3.alloc (.cells #[.int .i64 d] 3) = W := ⟨_, rfl⟩
  have b3 : Below w2.heap.size w2 W3 := by rw [← hW3]; exact on_alloc _ _
  have b4 : Below W3.heap.size W3 W4 := by rw [← hW4]; exact on_alloc _ _
  have hp3 : Blk W3 w2.heap.size 24 #[.slice L' n c'] := by rw [← hW3]; exact Blk.new w2 _ _
  have hz2 := hb2.size
  have hz3 := b3.size
  have hz4 := b4.size
  have hpl := hp3.lt
  have hx2 := HX.out.below hb2 HX.out.lt
  have hn2 := HN.out.below hb2 HN.out.lt
  have hy2 := HY.out.below hb2 HY.out.lt
  have hx3 := hx2.below b3 hx2.lt
  have hn3 := hn2.below b3 hn2.lt
  have hy3 := hy2.below b3 hy2.lt
  have hB3 := (HB.out.trans (hb2.mono (by omega))).trans (b3.mono (by omega))
  have HX4 := hide (hx3.below b4 hx3.lt)
  have HN4 := hide (hn3.below b4 hn3.lt)
  have HY4 := hide (hy3.below b4 hy3.lt)
  have HP4 := hide (hp3.below b4 hp3.lt)
  have HO4 := hide ((hO.below b3).below b4)
  have HB4 := hide (hB3.trans (b4.mono (by omega)))
  have HRX : Hid (nds X = nds l) := hide hR
  have HOF : Hid (∀ x ∈ X, Off x.D x.dn w2.heap.size ∧ Off x.M x.mn w2.heap.size) := hide (fun x hx => ⟨off_of (hO.ok x hx).d (Nat.le_refl _), off_of (hO.ok x hx).n (Nat.le_refl _)⟩)
  have XR : Reads W4 W4.heap.size 1 (some ⟨W3.heap.size, 0, none⟩) 1 (ivs [d]) := by rw [← hW4]; exact ivs_one W3 d _
  have X5 := hide (has_c L n c l [d] (some ⟨W3.heap.size, 0, none⟩) 1 1 W4 (HF.out W4 HB4.out) HFW.out XR (by omega))
  have k3 := one_ hx3
  clear b3 b4 hO hb2 XF HX HN HY k0 k1 hR hS HB XR hx2 hn2 hy2 hx3 hn3 hy3 hp3 hB3 hsz
  go_wp2_with (first | rw [hW3] | rw [hW4])
  refine X5.out.mono ?_
  rintro e w5 ⟨rfl, hb5⟩
  have HX5 := hide (HX4.out.below hb5 HX4.out.lt)
  have HN5 := hide (HN4.out.below hb5 HN4.out.lt)
  have HY5 := hide (HY4.out.below hb5 HY4.out.lt)
  have HP5 := hide (HP4.out.below hb5 HP4.out.lt)
  have HO5 := hide (HO4.out.below hb5)
  have HB5 := hide (HB4.out.trans (hb5.mono HB4.out.size))
  have hz5 := hb5.size
  clear hb5 X5 k3 hW1 hW3 hW4 HX4 HN4 HY4 HP4 HO4 HB4
  cases hh : hasP (nds l) [d] with
  | false =>
    have hTe : T = (nds l, 0, 2) := by rw [HT.out, hh]; rfl
    subst hTe
    have k5 := one_ HP5.out
    have k6 := HY5.out.frozen 0
    have k7 := one_ HY5.out
    clear HT hh
    go_wp2_with fail
    have hsz := HSZ.out
    refine bodyPost_ret (v := .tuple #[.agg #[.slice L' n c'], .int .i64 0, .int .i64 2]) (by simp only [results, Tryz.results9]; go_simp) rfl ?_
    refine ⟨_, _, _, _, rfl, OF.less (OF.far HO5.out (p := ⟨w.heap.size + 2, 0, none⟩) (by show w.heap.size + 2 < W1.heap.size; omega) _) (by omega), HRX.out, HB5.out.setCell (p := ⟨w.heap.size + 2, 0, none⟩) (by show w.heap.size ≤ w.heap.size + 2; omega) _⟩
  | true =>
    obtain ⟨m, rfl, hml⟩ := hasP_in hh (List.mem_singleton.2 rfl)
    have hck := hasP_check hh
    have HCK := hide hck
    have hm : m < n := by have := HLN.out; omega
    have XW := hide (HCR.out w5 HB5.out)
    obtain ⟨K0, hK0⟩ : ∃ E, creatableP ⟨kd, md, lk, da, nm, tt⟩ = E := ⟨_, rfl⟩
    obtain ⟨E, hE⟩ : ∃ E, firstP [nameC s, writableP (nds l) (m : Int), absentP (nds l) (m : Int) s] = E := ⟨_, rfl⟩
    rw [hK0] at XW
    have HT1 : Hid (T = if K0 = true then (if E = 0 then (if 256 ≤ (nds l).length then (nds l, 0, 35) else (insP (nds l ++ [⟨kd, md, 0, da, nm, tt⟩]) (m : Int) s (nds l).length, ((nds l).length : Int), 0)) else (nds l, 0, E)) else (nds l, 0, 2)) := hide (by rw [HT.out, hh, hE, hK0, Bool.true_and])
    have HE := hide hE
    have k5 := one_ HX5.out
    obtain ⟨a0, a1, a2, a3, a4, a5⟩ := six HN5.out
    clear HT hh hE hck hK0 HCR
    go_wp2_with fail
    refine XW.out.mono ?_
    rintro e w6 ⟨rfl, hb6⟩
    clear a0 a1 a2 a3 a4 a5
    have HX6 := hide (HX5.out.below hb6 HX5.out.lt)
    have HN6 := hide (HN5.out.below hb6 HN5.out.lt)
    have HY6 := hide (HY5.out.below hb6 HY5.out.lt)
    have HP6 := hide (HP5.out.below hb6 HP5.out.lt)
    have HO6 := hide (HO5.out.below hb6)
    have HB6 := hide (HB5.out.trans (hb6.mono HB5.out.size))
    have hz6 := hb6.size
    clear hb6 XW k5 HX5 HN5 HY5 HP5 HO5 HB5
    cases K0 with
    | false =>
      have hTe : T = (nds l, 0, 2) := by rw [HT1.out]; rfl
      subst hTe
      have k5 := one_ HP6.out
      have k6 := HY6.out.frozen 0
      have k7 := one_ HY6.out
      clear HT1
      go_wp2_with fail
      have hsz := HSZ.out
      refine bodyPost_ret (v := .tuple #[.agg #[.slice L' n c'], .int .i64 0, .int .i64 2]) (by simp only [results, Tryz.results9]; go_simp) rfl ?_
      refine ⟨_, _, _, _, rfl, OF.less (OF.far HO6.out (p := ⟨w.heap.size + 2, 0, none⟩) (by show w.heap.size + 2 < W1.heap.size; omega) _) (by omega), HRX.out, HB6.out.setCell (p := ⟨w.heap.size + 2, 0, none⟩) (by show w.heap.size ≤ w.heap.size + 2; omega) _⟩
    | true =>
      have HT2 : Hid (T = if E = 0 then (if 256 ≤ (nds l).length then (nds l, 0, 35) else (insP (nds l ++ [⟨kd, md, 0, da, nm, tt⟩]) (m : Int) s (nds l).length, ((nds l).length : Int), 0)) else (nds l, 0, E)) := hide (by rw [HT1.out, if_pos rfl])
      have k5 := one_ HX6.out
      clear HT1
      go_wp2_with fail
      refine wp_region_K (fun V => V.cell? ⟨w.heap.size, 0, none⟩ = some (.slice L n c)) [] rfl k5 (fun hHeld => ?_)
      refine wpAnyK_take (i := 0) (v := ?_) rfl rfl (by kernel_rfl) (fun _ _ _ h => h) (Or.inl ⟨by rfl, ?_⟩) (by assumption) ?_
      rotate_left
      · (intro V hV; (try dsimp only at hV); go_simp; with_reducible rfl)
      try simp only [Act.put, List.setIfInBounds_toArray, List.set_cons_zero, List.set_cons_succ]
      refine wpAnyK_take (i := 2) (v := ?_) rfl rfl (by kernel_rfl) (fun _ _ _ h => h) (Or.inl ⟨by rfl, ?_⟩) (by assumption) ?_
      rotate_left
      · (intro V hV; (try dsimp only at hV); go_simp; with_reducible rfl)
      try simp only [Act.put, List.setIfInBounds_toArray, List.set_cons_zero, List.set_cons_succ]
      refine wpAnyK_take (i := 3) (v := ?_) rfl rfl (by kernel_rfl) (fun _ _ _ h => h) (Or.inl ⟨by rfl, ?_⟩) (by assumption) ?_
      rotate_left
      · (intro V hV; (try dsimp only at hV); go_simp; with_reducible rfl)
      try simp only [Act.put, List.setIfInBounds_toArray, List.set_cons_zero, List.set_cons_succ]
      refine wpAnyK_take (i := 5) (v := ?_) rfl rfl (by kernel_rfl) (fun _ _ _ h => h) (Or.inl ⟨by rfl, ?_⟩) (by assumption) ?_
      rotate_left
      · (intro V hV; (try dsimp only at hV); go_simp; with_reducible rfl)
      try simp only [Act.put, List.setIfInBounds_toArray, List.set_cons_zero, List.set_cons_succ]
      refine wpAnyK_take (i := 6) (v := ?_) rfl rfl (by kernel_rfl) (fun _ _ _ h => h) (Or.inl ⟨by rfl, ?_⟩) (by assumption) ?_
      rotate_left
      · (intro V hV; (try dsimp only at hV); go_simp; with_reducible rfl)
      try simp only [Act.put, List.setIfInBounds_toArray, List.set_cons_zero, List.set_cons_succ]
      refine wpAnyK_take (i := 7) (v := ?_) rfl rfl (by kernel_rfl) (fun _ _ _ h => h) (Or.inl ⟨by rfl, ?_⟩) (by assumption) ?_
      rotate_left
      · (intro V hV; (try dsimp only at hV); go_simp; with_reducible rfl)
      try simp only [Act.put, List.setIfInBounds_toArray, List.set_cons_zero, List.set_cons_succ]
      have hb7 : Below w6.heap.size w6 w6.drew := (Below.refl _ _).drew
      have HX7 := hide (HX6.out.below hb7 HX6.out.lt)
      have HN7 := hide (HN6.out.below hb7 HN6.out.lt)
      have HY7 := hide (HY6.out.below hb7 HY6.out.lt)
      have HP7 := hide (HP6.out.below hb7 HP6.out.lt)
      have HO7 := hide (HO6.out.below hb7)
      have HB7 := hide (HB6.out.trans (hb7.mono HB6.out.size))
      have hz7 := hb7.size
      clear hb7 k5 HX6 HN6 HY6 HP6 HO6 HB6
      refine wpAnyK_step (i := 1) (by kernel_rfl) rfl rfl (fun K hK => ?_)
      go_simp
      refine (name_c s _ (by omega)).mono ?_
      rintro e w8 ⟨rfl, hb8⟩
      have HX8 := hide (HX7.out.below hb8 HX7.out.lt)
      have HN8 := hide (HN7.out.below hb8 HN7.out.lt)
      have HY8 := hide (HY7.out.below hb8 HY7.out.lt)
      have HP8 := hide (HP7.out.below hb8 HP7.out.lt)
      have HO8 := hide (HO7.out.below hb8)
      have HB8 := hide (HB7.out.trans (hb8.mono HB7.out.size))
      have hz8 := hb8.size
      clear hb8 hHeld HX7 HN7 HY7 HP7 HO7 HB7
      have k5 := one_ HX8.out
      refine hK.out _ _ (fun _ _ => k5) ?_
      clear hK K
      simp only [List.setIfInBounds_toArray]
      refine wpAnyK_step (i := 4) (by kernel_rfl) rfl rfl (fun K hK => ?_)
      go_simp
      refine (writable_c L n c l m _ (HF.out _ HB8.out) hm (at_mode HCK.out hml)).mono ?_
      rintro e w9 ⟨rfl, hb9⟩
      clear k5
      have HX9 := hide (HX8.out.below hb9 HX8.out.lt)
      have HN9 := hide (HN8.out.below hb9 HN8.out.lt)
      have HY9 := hide (HY8.out.below hb9 HY8.out.lt)
      have HP9 := hide (HP8.out.below hb9 HP8.out.lt)
      have HO9 := hide (HO8.out.below hb9)
      have HB9 := hide (HB8.out.trans (hb9.mono HB8.out.size))
      have hz9 := hb9.size
      clear hb9  HX8 HN8 HY8 HP8 HO8 HB8
      have k5 := one_ HX9.out
      refine hK.out _ _ (fun _ _ => k5) ?_
      clear hK K
      simp only [List.setIfInBounds_toArray]
      refine wpAnyK_step (i := 8) (by kernel_rfl) rfl rfl (fun K hK => ?_)
      go_simp
      refine (absent_c L n c l m s _ (HF.out _ HB9.out) HFW.out hm (at_sorted HCK.out hml)).mono ?_
      rintro e w10 ⟨rfl, hb10⟩
      clear k5
      have HX10 := hide (HX9.out.below hb10 HX9.out.lt)
      have HN10 := hide (HN9.out.below hb10 HN9.out.lt)
      have HY10 := hide (HY9.out.below hb10 HY9.out.lt)
      have HP10 := hide (HP9.out.below hb10 HP9.out.lt)
      have HO10 := hide (HO9.out.below hb10)
      have HB10 := hide (HB9.out.trans (hb10.mono HB9.out.size))
      have hz10 := hb10.size
      clear hb10  HX9 HN9 HY9 HP9 HO9 HB9
      have k5 := one_ HX10.out
      refine hK.out _ _ (fun _ _ => k5) ?_
      clear hK K
      simp only [List.setIfInBounds_toArray]
      obtain ⟨e1, he1⟩ : ∃ e, nameC s = e := ⟨_, rfl⟩
      obtain ⟨e2, he2⟩ : ∃ e, writableP (nds l) (m : Int) = e := ⟨_, rfl⟩
      obtain ⟨e3, he3⟩ : ∃ e, absentP (nds l) (m : Int) s = e := ⟨_, rfl⟩
      rw [he1, he2, he3] at HE
      rw [he1, he2, he3]
      obtain ⟨W11, hW11⟩ : ∃ W, w10.alloc (.cells #[.int .i64 e1, .int .i64 e2, .int .i64 e3] 32) = W := ⟨_, rfl⟩
      have hb11 : Below w10.heap.size w10 W11 := by rw [← hW11]; exact on_alloc _ _
      have XR : Reads W11 W11.heap.size 1 (some ⟨w10.heap.size, 0, none⟩) 3 (ivs [e1, e2, e3]) := by rw [← hW11]; exact ivs_three w10 e1 e2 e3 _
      have X1 := hide (first_any [e1, e2, e3] (some ⟨w10.heap.size, 0, none⟩) 3 3 W11.heap.size W11 XR (by omega))
      rw [HE.out] at X1
      refine wpAnyK_step (i := 9) (by kernel_rfl) rfl rfl (fun K hK => ?_)
      go_simp
      try rw [hW11]
      clear k5 XR
      have HX11 := hide (HX10.out.below hb11 HX10.out.lt)
      have HN11 := hide (HN10.out.below hb11 HN10.out.lt)
      have HY11 := hide (HY10.out.below hb11 HY10.out.lt)
      have HP11 := hide (HP10.out.below hb11 HP10.out.lt)
      have HO11 := hide (HO10.out.below hb11)
      have HB11 := hide (HB10.out.trans (hb11.mono HB10.out.size))
      have hz11 := hb11.size
      clear hb11 hW11 HX10 HN10 HY10 HP10 HO10 HB10
      have k5 := one_ HX11.out
      refine hK.out _ _ (fun _ _ => k5) ?_
      clear hK K
      simp only [List.setIfInBounds_toArray]
      refine wpAnyK_step (i := 10) (by kernel_rfl) rfl rfl (fun K hK => ?_)
      go_simp
      refine X1.out.mono ?_
      rintro e w12 ⟨rfl, rfl⟩
      refine hK.out _ _ (fun _ _ => k5) ?_
      clear hK K
      simp only [List.setIfInBounds_toArray]
      refine wpAnyK_takeF (i := 11) (v := ?_) rfl rfl (by kernel_rfl) (fun _ _ _ h => h) (Or.inl ⟨by rfl, ?_⟩) ?_
      rotate_left
      · (intro V hV; go_simp; with_reducible rfl)
      try simp only [Act.put, List.setIfInBounds_toArray, List.set_cons_zero, List.set_cons_succ]
      refine wpAnyK_done (by kernel_rfl) ?_ _
      clear X1
      by_cases h0 : E = 0
      · subst h0
        have hn100 : n ≤ 100 := by have h1 := HFW.out.n; have h2 := HLN.out; rw [nds_length] at h2; omega
        have h256 : ¬ (256 : Int) ≤ (n : Int) := by omega
        have hTe : T = (insP (nds l ++ [⟨kd, md, 0, da, nm, tt⟩]) (m : Int) s (n : Int), (n : Int), 0) := by rw [HT2.out, if_pos rfl, HLN.out, if_neg (by omega)]
        subst hTe
        obtain ⟨a0, a1, a2, a3, a4, a5⟩ := six HN11.out
        have XN := hide (HCN.out W11 HB11.out)
        clear HT2
        go_wp2_with fail
        refine XN.out.mono ?_
        rintro e w12 ⟨D', dc', M', mc', rfl, hd, hm', hb12⟩
        have hd0 := hide hd
        have hm0 := hide hm'
        obtain ⟨g, rfl, hgB, hgl⟩ := HO11.out.addr (by omega)
        have hpW : w2.heap.size < W11.heap.size := HP11.out.lt
        clear hd hm' XN HCN a0 a1 a2 a3 a4 a5 k5
        have HX12 := hide (HX11.out.below hb12 HX11.out.lt)
        have HN12 := hide (HN11.out.below hb12 HN11.out.lt)
        have HY12 := hide (HY11.out.below hb12 HY11.out.lt)
        have HP12 := hide (HP11.out.below hb12 HP11.out.lt)
        have HO12 := hide (HO11.out.below hb12)
        have HB12 := hide (HB11.out.trans (hb12.mono HB11.out.size))
        have hz12 := hb12.size
        clear hb12  HX11 HN11 HY11 HP11 HO11 HB11
        have hsz := HSZ.out
        obtain ⟨W13, hW13⟩ : ∃ W, (((((w12.setCell ⟨w.heap.size + 1, 0, none⟩ (.int .i64 kd)).setCell ⟨w.heap.size + 1, 1, none⟩ (.int .i64 md)).setCell ⟨w.heap.size + 1, 2, none⟩ (.int .i64 lk)).setCell ⟨w.heap.size + 1, 3, none⟩ (.slice D' dn dc')).setCell ⟨w.heap.size + 1, 4, none⟩ (.slice M' mn mc')).setCell ⟨w.heap.size + 1, 5, none⟩ (.string ⟨tt.toArray⟩) = W := ⟨_, rfl⟩
        obtain ⟨W14, hW14⟩ : ∃ W, W13.setCell ⟨w.heap.size + 1, 2, none⟩ (.int .i64 0) = W := ⟨_, rfl⟩
        have N13 : Blk W13 (w.heap.size + 1) 28 #[.int .i64 kd, .int .i64 md, .int .i64 lk, .slice D' dn dc', .slice M' mn mc', .string ⟨tt.toArray⟩] := by
          rw [← hW13]
          exact (((((HN12.out.set_ 0 _).set_ 1 _).set_ 2 _).set_ 3 _).set_ 4 _).set_ 5 _
        have N14 : Blk W14 (w.heap.size + 1) 28 #[.int .i64 kd, .int .i64 md, .int .i64 0, .slice D' dn dc', .slice M' mn mc', .string ⟨tt.toArray⟩] := by
          rw [← hW14]
          exact N13.set_ 2 _
        have hlt1 : w.heap.size + 1 < W1.heap.size := by omega
        have hlt2 : w.heap.size + 1 < W11.heap.size := by omega
        have O14 : OF W1.heap.size W14 (some ⟨g, 0, none⟩) n c' X := by
          rw [← hW14, ← hW13]
          repeat (refine OF.far ?_ hlt1 _)
          exact HO12.out
        have P14 : Blk W14 w2.heap.size 24 #[.slice (some ⟨g, 0, none⟩) n c'] := by
          rw [← hW14, ← hW13]
          repeat (refine Blk.far ?_ (by show w2.heap.size ≠ w.heap.size + 1; omega) _)
          exact HP12.out
        have Y14 : Blk W14 (w.heap.size + 2) 24 #[.slice none 0 0] := by
          rw [← hW14, ← hW13]
          repeat (refine Blk.far ?_ (by show w.heap.size + 2 ≠ w.heap.size + 1; omega) _)
          exact HY12.out
        have B14 : Below w.heap.size w W14 := by
          rw [← hW14, ← hW13]
          repeat (refine Below.setCell ?_ (by show w.heap.size ≤ w.heap.size + 1; omega) _)
          exact HB12.out
        have d14 : W14.ownsRow W11.heap.size 5 1 (.slice D' dn dc') dn (bv da) := by
          rw [← hW14, ← hW13]
          repeat (refine own_far ?_ hlt2 _)
          exact hd0.out
        have m14 : On W11.heap.size W14 M' mn mc' nm := by
          unfold On
          rw [← hW14, ← hW13]
          repeat (refine own_far ?_ hlt2 _)
          exact hm0.out
        have z14 : W14.heap.size = w12.heap.size := by rw [← hW14, ← hW13]; simp
        obtain ⟨W15, hW15⟩ : ∃ W, W14.alloc (.cells #[.int .i64 kd, .int .i64 md, .int .i64 0, .slice D' dn dc', .slice M' mn mc', .string ⟨tt.toArray⟩] 28) = W := ⟨_, rfl⟩
        have b15 : Below W14.heap.size W14 W15 := by rw [← hW15]; exact on_alloc _ _
        have R15 : Blk W15 W14.heap.size 28 #[.int .i64 kd, .int .i64 md, .int .i64 0, .slice D' dn dc', .slice M' mn mc', .string ⟨tt.toArray⟩] := by rw [← hW15]; exact Blk.new W14 _ _
        obtain ⟨y, hy⟩ : ∃ y : DV, (⟨⟨kd, md, 0, da, nm, tt⟩, D', dn, dc', M', mn, mc'⟩ : DV) = y := ⟨_, rfl⟩
        have HO15 := hide (O14.below b15)
        have HP15 := hide (P14.below b15 P14.lt)
        have HY15 := hide (Y14.below b15 Y14.lt)
        have HB15 := hide (B14.trans (b15.mono B14.size))
        have HDV : Hid (DVok W15 W15.heap.size y) := hide (by
          rw [← hy]
          exact ⟨((Reads.of_own d14).below b15).more b15.size, ((Reads.of_own m14).below b15).more b15.size⟩)
        have HLO : Hid (Lo y.D y.dn W11.heap.size ∧ Lo y.M y.mn W11.heap.size ∧ y.dn ≤ y.dc ∧ y.mn ≤ y.mc) := hide (by
          rw [← hy]
          exact ⟨lo_own d14, lo_own m14, own_cap d14, own_cap m14⟩)
        have hycs : y.cs = [.int .i64 kd, .int .i64 md, .int .i64 0, .slice D' dn dc', .slice M' mn mc', .string ⟨tt.toArray⟩] := by rw [← hy]; rfl
        have HRY : Hid (Reads W15 W15.heap.size 6 (some ⟨W14.heap.size, 0, none⟩) 1 [.int .i64 kd, .int .i64 md, .int .i64 0, .slice D' dn dc', .slice M' mn mc', .string ⟨tt.toArray⟩]) := hide ⟨rfl, fun _ => ⟨_, rfl, R15.lt, fun j u hj => by
          rw [Addr.add_lit, Nat.zero_add]
          exact (R15.cell j).trans (by rw [List.getElem?_toArray]; exact hj)⟩⟩
        obtain ⟨a0, a1, a2, a3, a4, a5⟩ := six HN12.out
        have f0 := HN12.out.frozen 0
        have f1 := HN12.out.frozen 1
        have f2 := HN12.out.frozen 2
        have f3 := HN12.out.frozen 3
        have f4 := HN12.out.frozen 4
        have f5 := HN12.out.frozen 5
        have g2 := N13.frozen 2
        have g2c := N13.cell 2
        obtain ⟨c0, c1, c2, c3, c4, c5⟩ := six N14
        have k14 := one_ P14
        have k15 := one_ HP15.out
        have k15f := HP15.out.frozen 0
        have HZ15 := hide b15.size
        have HZ14 := hide z14
        clear N13 N14 O14 P14 Y14 B14 d14 m14 z14 b15 R15 hd0 hm0 hsz hlt1 hlt2 HX12 HN12 HY12 HP12 HO12 HB12
        obtain ⟨i0, hi, hzz0, hzz1, hzz2⟩ := info_parts infoNodeC
        go_wp2_with (first | (at_builtin; (refine wpList_append_any _ rfl (.tmp 51) (.tmp 53) 22 rfl W1.heap.size 28 i0 _ 6 88 Tryz.underlying22 hi hzz0 hzz1 hzz2 rfl (by omega) (.slice (some ⟨g, 0, none⟩) n c') n (dcs X) rfl HO15.out.own W15.heap.size (some ⟨W14.heap.size, 0, none⟩) 1 1 [.int .i64 kd, .int .i64 md, .int .i64 0, .slice D' dn dc', .slice M' mn mc', .string ⟨tt.toArray⟩] rfl HRY.out ?h1 ?c1 ?c2 ?c3 ?_)) | rw [hW13] | rw [hW14] | rw [hW15])
        case h1 =>
          intro u hu
          simp only [List.mem_cons, List.not_mem_nil, or_false] at hu
          rcases hu with rfl | rfl | rfl | rfl | rfl | rfl <;> rfl
        case c1 => unfold maxLen; omega
        case c2 => omega
        case c3 => have := HZ15.out; have := HZ14.out; omega
        intro v1 w16 hown hg hat
        obtain ⟨A1, cc1, rfl⟩ := own_slice hown
        rw [← hycs] at hown
        have hzz := HZ15.out
        have hz14 := HZ14.out
        have OP := HO15.out.push HDV.out (fun a ha => by injection ha with ha; subst ha; exact ⟨HLO.out.1.off hgl, HLO.out.2.1.off hgl⟩) ⟨HLO.out.1.less (by omega), HLO.out.2.1.less (by omega), HLO.out.2.2⟩ hown hg hat
        have hne15 : some w2.heap.size ≠ (Value.slice (some ⟨g, 0, none⟩) n c').ownBlock := fun e => own_blk_ne HO15.out.own HP15.out (by decide) e.symm
        have P16 : Blk w16 w2.heap.size 24 #[.slice (some ⟨g, 0, none⟩) n c'] := HP15.out.grown hg hne15
        have hgo : ∀ z, (Value.slice (some (⟨g, 0, none⟩ : Addr)) n c').ownBlock = some z → g = z := fun z hz => by simpa [Value.ownBlock] using hz
        have hsz := HSZ.out
        have Y16 : Blk w16 (w.heap.size + 2) 24 #[.slice none 0 0] := HY15.out.grown hg (fun e => by have := hgo _ e.symm; omega)
        have B16 : Below w.heap.size w w16 := HB15.out.grown hg HB15.out.size (fun z hz => by have := hgo z hz; omega)
        have OA := OP.aside (p := ⟨w2.heap.size, 0, none⟩) P16 (by decide) (fun z hz => by
          rcases List.mem_append.1 hz with hz | hz
          · exact HOF.out z hz
          · rw [List.mem_singleton.1 hz]; exact ⟨HLO.out.1.off hpW, HLO.out.2.1.off hpW⟩) (.slice A1 (n + 1) cc1)
        obtain ⟨W17, hW17⟩ : ∃ W, w16.setCell ⟨w2.heap.size, 0, none⟩ (.slice A1 (n + 1) cc1) = W := ⟨_, rfl⟩
        have P17 : Blk W17 w2.heap.size 24 #[.slice A1 (n + 1) cc1] := by rw [← hW17]; exact P16.set_ 0 _
        have Y17 : Blk W17 (w.heap.size + 2) 24 #[.slice none 0 0] := by rw [← hW17]; exact Y16.far (p := ⟨w2.heap.size, 0, none⟩) (by show w.heap.size + 2 ≠ w2.heap.size; omega) _
        have B17 : Below w.heap.size w W17 := by rw [← hW17]; exact B16.setCell (p := ⟨w2.heap.size, 0, none⟩) (by show w.heap.size ≤ w2.heap.size; omega) _
        rw [hW17] at OA
        obtain ⟨g1, rfl, hg1B, hg1l⟩ := OA.addr (by omega)
        have hsm : ∀ z ∈ X ++ [y], z.mn ≤ 1000 ∧ 0 ≤ z.r.links ∧ z.r.links ≤ 1000000 := fun z hz => by
          rcases List.mem_append.1 hz with hz | hz
          · exact own_small HO15.out HFW.out HRX.out HCK.out z hz
          · rw [List.mem_singleton.1 hz, ← hy]
            have h1 := HFX.out.n
            have h2 := HNL.out.1
            dsimp only at h1 h2 ⊢
            omega
        have XI := hide (insert_c W1.heap.size w2.heap.size g1 (n + 1) cc1 m n (X ++ [y]) s W17 OA P17 (by have h1 := P17.lt; omega) hsm (by omega) (by omega))
        have hnds : nds (X ++ [y]) = nds l ++ [⟨kd, md, 0, da, nm, tt⟩] := by
          unfold nds at *
          rw [List.map_append]
          show X.map DV.r ++ [y.r] = _
          rw [← hy]
          have := HRX.out
          rw [← this]
        have p16c := one_ P16
        have p16f := P16.frozen 0
        have p17c := one_ P17
        have hwr : IntKind.i64.wrap (((n + 1 : Nat) : Int) - 1) = (n : Int) := by simp [IntKind.wrap, IntKind.bits, IntKind.signed]; omega
        have HY17 := hide Y17
        have HB17 := hide B17
        have hND := hide hnds
        have hz11 : w.heap.size + 2 < W1.heap.size := by omega
        clear hown hg hat OP hne15 P16 hgo Y16 B16 OA P17 Y17 B17 hsm hnds hzz hz14 HO15 HP15 HY15 HB15 HDV HLO HRY k14 k15 k15f a0 a1 a2 a3 a4 a5 f0 f1 f2 f3 f4 f5 g2 g2c c0 c1 c2 c3 c4 c5
        go_wp2_with (rw [hW17])
        refine XI.out.mono ?_
        rintro e w18 ⟨rfl, X', hO18, hR18, hP18, hb18⟩
        have HO18 := hide hO18
        have HR18 : Hid (nds X' = insP (nds l ++ [⟨kd, md, 0, da, nm, tt⟩]) (m : Int) s (n : Int)) := hide (by rw [hR18, hND.out])
        have HY18 := hide (HY17.out.below hb18 (by omega))
        have HB18 := hide (HB17.out.trans (hb18.mono (by omega)))
        have k8 := one_ hP18
        have k6 := HY18.out.frozen 0
        have k7 := one_ HY18.out
        clear hO18 hR18 hP18 hb18 XI hsz hz11 p16c p16f p17c
        go_wp2_with fail
        have hsz := HSZ.out
        refine bodyPost_ret (v := .tuple #[.agg #[.slice (some ⟨g1, 0, none⟩) (n + 1) cc1], .int .i64 n, .int .i64 0]) (by simp only [results, Tryz.results9]; go_simp) rfl ?_
        refine ⟨_, _, _, _, rfl, OF.less (OF.far HO18.out (p := ⟨w.heap.size + 2, 0, none⟩) (by show w.heap.size + 2 < W1.heap.size; omega) _) (by omega), HR18.out, HB18.out.setCell (p := ⟨w.heap.size + 2, 0, none⟩) (by show w.heap.size ≤ w.heap.size + 2; omega) _⟩
      · have hEb : (E != 0) = true := bne_iff_ne.2 h0
        clear k5
        have hTe : T = (nds l, 0, E) := by rw [HT2.out, if_neg h0]
        subst hTe
        have k5 := one_ HP11.out
        have k6 := HY11.out.frozen 0
        have k7 := one_ HY11.out
        clear HT2 h0
        go_wp2_with fail
        have hsz := HSZ.out
        refine bodyPost_ret (v := .tuple #[.agg #[.slice L' n c'], .int .i64 0, .int .i64 E]) (by simp only [results, Tryz.results9]; go_simp) rfl ?_
        refine ⟨_, _, _, _, rfl, OF.less (OF.far HO11.out (p := ⟨w.heap.size + 2, 0, none⟩) (by show w.heap.size + 2 < W1.heap.size; omega) _) (by omega), HRX.out, HB11.out.setCell (p := ⟨w.heap.size + 2, 0, none⟩) (by show w.heap.size ≤ w.heap.size + 2; omega) _⟩
end Go.Proofs.YtlcoapignfmgcaaGreatDoor
