/- names.replaceable. names.Read. Data does not matter to links and the tree: a change of data keeps a file system (pure). -/
import Derived.Test.YtlcoapignfmgcaaGreatDoorGm
namespace Go.Proofs.YtlcoapignfmgcaaGreatDoor
open Go.RowKit
set_option linter.unusedVariables false
def replaceP (l : List ND) (a b : Int) : Int :=
  if (ndAt l b).kind = 2 ∧ ¬ (ndAt l a).kind = 2 then 23 else if (ndAt l a).kind = 2 ∧ ¬ (ndAt l b).kind = 2 then 22 else if (ndAt l b).names.isEmpty then 0 else 26
set_option maxRecDepth 100000 in
set_option maxHeartbeats 8000000 in
theorem replace_c (L : Option Addr) (n c : Nat) (l : List DV) (a b : Nat) (w : World) (hF : FsR w w.heap.size L n l) (ha : a < n) (hb : b < n) :
    Calls Tryz.prog 48 #[.agg #[.slice L n c], .int .i64 (a : Int), .int .i64 (b : Int)] w fun e w' => e = .returned (.int .i64 (replaceP (nds l) (a : Int) (b : Int))) ∧ Below w.heap.size w w' := by
  obtain ⟨W1, hW1⟩ : ∃ W, w.alloc (.cells #[.slice L n c] 24) = W := ⟨_, rfl⟩
  have h1 : Blk W1 w.heap.size 24 #[.slice L n c] := by rw [← hW1]; exact Blk.new w _ _
  have b1 : Below w.heap.size w W1 := by rw [← hW1]; exact on_alloc _ _
  have HF := hide (fun (W : World) (hW : Below w.heap.size w W) => (hF.below hW).more hW.size)
  have XA := hide (fun (W : World) (hW : Below w.heap.size w W) => isdir_c L n c l a W (HF.out W hW) ha)
  have XB := hide (fun (W : World) (hW : Below w.heap.size w W) => isdir_c L n c l b W (HF.out W hW) hb)
  have HX := hide h1
  have HB := hide b1
  have k0 := one_ h1
  have HR : Hid (replaceP (nds l) (a : Int) (b : Int) = if (ndAt (nds l) (b : Int)).kind = 2 ∧ ¬ (ndAt (nds l) (a : Int)).kind = 2 then 23 else if (ndAt (nds l) (a : Int)).kind = 2 ∧ ¬ (ndAt (nds l) (b : Int)).kind = 2 then 22 else if (ndAt (nds l) (b : Int)).names.isEmpty then 0 else 26) := hide rfl
  generalize replaceP (nds l) (a : Int) (b : Int) = R at *
  obtain ⟨ka, hka⟩ : ∃ k, ((ndAt (nds l) (a : Int)).kind == 2) = k := ⟨_, rfl⟩
  obtain ⟨kb, hkb⟩ : ∃ k, ((ndAt (nds l) (b : Int)).kind == 2) = k := ⟨_, rfl⟩
  rw [hka] at XA
  rw [hkb] at XB
  have HKA := hide hka
  have HKB := hide hkb
  clear hF h1 b1 hka hkb
  go_enter Tryz.func48, Tryz.ntmps48
  go_wp2_with (rw [hW1])
  refine (XB.out W1 HB.out).mono ?_
  rintro e w2 ⟨rfl, hb2⟩
  have HX2 := hide (HX.out.below hb2 HX.out.lt)
  have HB2 := hide (HB.out.trans (hb2.mono HB.out.size))
  clear hb2 k0 HX HB hW1
  have k0 := one_ HX2.out
  cases kb with
  | true =>
    have hB2 := beq_iff_eq.1 HKB.out
    go_wp2_with fail
    refine (XA.out w2 HB2.out).mono ?_
    rintro e w3 ⟨rfl, hb3⟩
    have HX3 := hide (HX2.out.below hb3 HX2.out.lt)
    have HB3 := hide (HB2.out.trans (hb3.mono HB2.out.size))
    clear hb3 k0 HX2 HB2
    have k0 := one_ HX3.out
    cases ka with
    | false =>
      have hA2 := beq_eq_false_iff_ne.1 HKA.out
      have hRe : R = 23 := by rw [HR.out, if_pos ⟨hB2, hA2⟩]
      subst hRe
      clear HR
      go_wp2_with fail
      go_ret
      exact ⟨rfl, HB3.out⟩
    | true =>
      have hA2 := beq_iff_eq.1 HKA.out
      go_wp2_with fail
      refine (XA.out w3 HB3.out).mono ?_
      rintro e w4 ⟨rfl, hb4⟩
      have HX4 := hide (HX3.out.below hb4 HX3.out.lt)
      have HB4 := hide (HB3.out.trans (hb4.mono HB3.out.size))
      clear hb4 k0 HX3 HB3
      have k0 := one_ HX4.out
      go_wp2_with fail
      refine (XB.out w4 HB4.out).mono ?_
      rintro e w5 ⟨rfl, hb5⟩
      have HX5 := hide (HX4.out.below hb5 HX4.out.lt)
      have HB5 := hide (HB4.out.trans (hb5.mono HB4.out.size))
      clear hb5 k0 HX4 HB4
      have k0 := one_ HX5.out
      have HR2 : Hid (R = if (ndAt (nds l) (b : Int)).names.isEmpty then 0 else 26) := hide (by rw [HR.out, if_neg (fun h => h.2 hA2), if_neg (fun h => h.2 hB2)])
      obtain ⟨g0, o0, y, hL, hg0, hy, hyok, hyc⟩ := (HF.out w5 HB5.out).at_ hb
      subst hL
      obtain ⟨d0, d1, d2, d3, d4, d5⟩ := hyc
      have i1 := fun W => nd_at g0 o0 n c b (b : Int) rfl hb W
      have hyn := hyok.nl
      have HR3 : Hid (R = if y.r.names.isEmpty then 0 else 26) := hide (by rw [HR2.out, nds_at hy])
      clear hy hyok HR HR2
      by_cases hye : y.mn = 0
      · have hRe : R = 0 := by rw [HR3.out, List.eq_nil_of_length_eq_zero (by omega : y.r.names.length = 0)]; rfl
        subst hRe
        have hgt : ¬ (0 : Int) < (y.mn : Int) := by omega
        clear HR3 hye
        go_wp2_with fail
        go_ret
        exact ⟨rfl, HB5.out⟩
      · have hRe : R = 26 := by
          rw [HR3.out, if_neg]
          intro hc
          rw [List.isEmpty_iff] at hc
          rw [hc] at hyn
          simp at hyn
          omega
        subst hRe
        have hgt : (0 : Int) < (y.mn : Int) := by omega
        clear HR3 hye
        go_wp2_with fail
        go_ret
        exact ⟨rfl, HB5.out⟩
  | false =>
    have hB2 := beq_eq_false_iff_ne.1 HKB.out
    go_wp2_with fail
    refine (XA.out w2 HB2.out).mono ?_
    rintro e w3 ⟨rfl, hb3⟩
    have HX3 := hide (HX2.out.below hb3 HX2.out.lt)
    have HB3 := hide (HB2.out.trans (hb3.mono HB2.out.size))
    clear hb3 k0 HX2 HB2
    have k0 := one_ HX3.out
    cases ka with
    | true =>
      have hA2 := beq_iff_eq.1 HKA.out
      go_wp2_with fail
      refine (XB.out w3 HB3.out).mono ?_
      rintro e w4 ⟨rfl, hb4⟩
      have HX4 := hide (HX3.out.below hb4 HX3.out.lt)
      have HB4 := hide (HB3.out.trans (hb4.mono HB3.out.size))
      clear hb4 k0 HX3 HB3
      have k0 := one_ HX4.out
      have hRe : R = 22 := by rw [HR.out, if_neg (fun h => hB2 h.1), if_pos ⟨hA2, hB2⟩]
      subst hRe
      clear HR
      go_wp2_with fail
      go_ret
      exact ⟨rfl, HB4.out⟩
    | false =>
      have hA2 := beq_eq_false_iff_ne.1 HKA.out
      have HR2 : Hid (R = if (ndAt (nds l) (b : Int)).names.isEmpty then 0 else 26) := hide (by rw [HR.out, if_neg (fun h => hB2 h.1), if_neg (fun h => hA2 h.1)])
      obtain ⟨g0, o0, y, hL, hg0, hy, hyok, hyc⟩ := (HF.out w3 HB3.out).at_ hb
      subst hL
      obtain ⟨d0, d1, d2, d3, d4, d5⟩ := hyc
      have i1 := fun W => nd_at g0 o0 n c b (b : Int) rfl hb W
      have hyn := hyok.nl
      have HR3 : Hid (R = if y.r.names.isEmpty then 0 else 26) := hide (by rw [HR2.out, nds_at hy])
      clear hy hyok HR HR2
      by_cases hye : y.mn = 0
      · have hRe : R = 0 := by rw [HR3.out, List.eq_nil_of_length_eq_zero (by omega : y.r.names.length = 0)]; rfl
        subst hRe
        have hgt : ¬ (0 : Int) < (y.mn : Int) := by omega
        clear HR3 hye
        go_wp2_with fail
        go_ret
        exact ⟨rfl, HB3.out⟩
      · have hRe : R = 26 := by
          rw [HR3.out, if_neg]
          intro hc
          rw [List.isEmpty_iff] at hc
          rw [hc] at hyn
          simp at hyn
          omega
        subst hRe
        have hgt : (0 : Int) < (y.mn : Int) := by omega
        clear HR3 hye
        go_wp2_with fail
        go_ret
        exact ⟨rfl, HB3.out⟩
end Go.Proofs.YtlcoapignfmgcaaGreatDoor
namespace Go.Proofs.YtlcoapignfmgcaaGreatDoor
open Go.RowKit
set_option linter.unusedVariables false
def ReadEnd (w : World) (r : List UInt8 × Int) (e : Ending) (w' : World) : Prop :=
  ∃ A n c, e = .returned (.tuple #[.slice A n c, .int .i64 r.2]) ∧ w'.ownsRow w.heap.size 5 1 (.slice A n c) n (bv r.1) ∧ Below w.heap.size w w'
def aftU (A : Option Addr) (c q : Nat) : Option Addr := if c = q then A else A.map (fun a => a.add q)
theorem Reads.aftu {W : World} {B n c q : Nat} {A : Option Addr} {l : List UInt8} (h : Reads W B 1 A n (bv l)) (hq : q ≤ n) (hc : n ≤ c) : Reads W B 1 (aftU A c q) (n - q) (bv (l.drop q)) := by
  have hl := h.1
  refine ⟨by rw [bv_drop, List.length_drop, hl]; omega, fun h0 => ?_⟩
  obtain ⟨ad, rfl, hb, hx⟩ := h.2 (by omega)
  refine ⟨ad.add q, by unfold aftU; rw [if_neg (by omega)]; rfl, by rw [block_of_add]; exact hb, fun j u hj => ?_⟩
  rw [bv_drop, List.getElem?_drop] at hj
  rw [← hx _ _ hj]
  congr 1
  unfold Addr.add
  by_cases e1 : q = 0
  · simp [e1]
  · by_cases e2 : j = 0
    · simp [e1, e2]
    · simp [e1, e2]
      omega
theorem sl_fromU (A : Option Addr) (n c q : Nat) (hq : q ≤ n) (W : World) : (Instr.slice 25 (.slice A n c) (some (.int .i64 (q : Int))) none none).run Tryz.prog W = .ok (.slice (aftU A c q) (n - q) (c - q)) W := by
  have h := run_slice_from (P := Tryz.prog) 25 5 Tryz.underlying25 sizeU8 A n c .i64 (q : Int) (by omega) (by omega) W
  rw [h, Int.toNat_natCast]
  rfl
theorem sl_toU (A : Option Addr) (n c q : Nat) (hq : q ≤ c) (W : World) : (Instr.slice 25 (.slice A n c) none (some (.int .i64 (q : Int))) none).run Tryz.prog W = .ok (.slice A q c) W := by
  have h := run_slice_to (P := Tryz.prog) 25 5 Tryz.underlying25 sizeU8 A n c .i64 (q : Int) (by omega) (by omega) W
  rw [h, Int.toNat_natCast]
set_option maxRecDepth 100000 in
set_option maxHeartbeats 8000000 in
theorem read_c (L : Option Addr) (n c : Nat) (l : List DV) (d off k : Int) (w : World) (hF : FsR w w.heap.size L n l) (hB : FewB l) (hcap : ∀ x ∈ l, x.dn ≤ x.dc) :
    Calls Tryz.prog 20 #[.agg #[.slice L n c], .int .i64 d, .int .i64 off, .int .i64 k] w (ReadEnd w (readP (nds l) d off k)) := by
  have hl := hF.len
  have hln : (nds l).length = n := by rw [nds_length, hl]
  obtain ⟨W1, hW1⟩ : ∃ W, w.alloc (.cells #[.slice L n c] 24) = W := ⟨_, rfl⟩
  have h1 : Blk W1 w.heap.size 24 #[.slice L n c] := by rw [← hW1]; exact Blk.new w _ _
  have b1 : Below w.heap.size w W1 := by rw [← hW1]; exact on_alloc _ _
  have HF := hide (fun (W : World) (hW : Below w.heap.size w W) => (hF.below hW).more hW.size)
  have XC := hide (file_c L n c l d W1 (HF.out W1 b1) hB)
  have HX := hide h1
  have HB := hide b1
  have HLN := hide hln
  have HC := hide hcap
  have HFW := hide hB
  have HT : Hid (readP (nds l) d off k = if fileP (nds l) d = 0 then (if off < 0 ∨ k < 0 then ([], 2) else (((ndAt (nds l) d).data.drop off.toNat).take k.toNat, 0)) else ([], fileP (nds l) d)) := hide rfl
  generalize readP (nds l) d off k = T at *
  obtain ⟨E, hE⟩ : ∃ E, fileP (nds l) d = E := ⟨_, rfl⟩
  have HE := hide hE
  rw [hE] at HT XC
  have k0 := one_ h1
  clear hF hB hl hln hcap h1 b1 hE
  go_enter Tryz.func20, Tryz.ntmps20
  go_wp2_with (rw [hW1])
  refine XC.out.mono ?_
  rintro e w2 ⟨rfl, hb2⟩
  have HX2 := hide (HX.out.below hb2 HX.out.lt)
  have HB2 := hide (HB.out.trans (hb2.mono HB.out.size))
  clear hb2 k0 HX HB XC hW1
  have k0 := one_ HX2.out
  by_cases h0 : E = 0
  · subst h0
    obtain ⟨m, rfl, hml⟩ := file_in HE.out
    have hm : m < n := by have := HLN.out; omega
    have HT2 : Hid (T = if off < 0 ∨ k < 0 then ([], 2) else (((ndAt (nds l) (m : Int)).data.drop off.toNat).take k.toNat, 0)) := hide (by rw [HT.out, if_pos rfl])
    clear HT HE
    by_cases ho : off < 0
    · have hTe : T = ([], 2) := by rw [HT2.out, if_pos (.inl ho)]
      subst hTe
      clear HT2
      go_wp2_with fail
      refine bodyPost_ret (v := .tuple #[.slice none 0 0, .int .i64 2]) (by simp only [results, Tryz.results20]; go_simp) rfl ⟨none, 0, 0, rfl, World.ownsRow_nil _ _ _ _, HB2.out⟩
    by_cases hk : k < 0
    · have hTe : T = ([], 2) := by rw [HT2.out, if_pos (.inr hk)]
      subst hTe
      clear HT2
      go_wp2_with fail
      refine bodyPost_ret (v := .tuple #[.slice none 0 0, .int .i64 2]) (by simp only [results, Tryz.results20]; go_simp) rfl ⟨none, 0, 0, rfl, World.ownsRow_nil _ _ _ _, HB2.out⟩
    obtain ⟨q, rfl⟩ : ∃ q : Nat, off = (q : Int) := ⟨off.toNat, by omega⟩
    obtain ⟨r, rfl⟩ : ∃ q : Nat, k = (q : Int) := ⟨k.toNat, by omega⟩
    obtain ⟨g0, o0, y, hL, hg0, hy, hyok, hyc⟩ := (HF.out w2 HB2.out).at_ hm
    subst hL
    obtain ⟨d0, d1, d2, d3, d4, d5⟩ := hyc
    have i1 := fun W => nd_at g0 o0 n c m (m : Int) rfl hm W
    have hym := List.mem_of_getElem? hy
    have hyl := hyok.dl
    have hyd := hyok.d
    have hycap := HC.out y hym
    have hyf := (HFW.out.each y hym).d
    have HT3 : Hid (T = ((y.r.data.drop q).take r, 0)) := hide (by rw [HT2.out, if_neg (by omega), nds_at hy]; rfl)
    clear HT2 hy hyok hym
    by_cases hq : y.dn ≤ q
    · have hTe : T = ([], 0) := by rw [HT3.out, List.drop_of_length_le (by omega)]; simp
      subst hTe
      have hge : (y.dn : Int) ≤ (q : Int) := by omega
      clear HT3
      go_wp2_with fail
      refine bodyPost_ret (v := .tuple #[.slice none 0 0, .int .i64 0]) (by simp only [results, Tryz.results20]; go_simp) rfl ⟨none, 0, 0, rfl, World.ownsRow_nil _ _ _ _, HB2.out⟩
    · have hge : ¬ (y.dn : Int) ≤ (q : Int) := by omega
      have s1 := fun W => sl_fromU y.D y.dn y.dc q (by omega) W
      have hR := hyd.aftu (q := q) (by omega) hycap
      have hsub : ((y.dn : Nat) : Int) - (q : Int) = ((y.dn - q : Nat) : Int) := by omega
      have hwr : IntKind.i64.wrap ((y.dn : Int) - (q : Int)) = ((y.dn - q : Nat) : Int) := by rw [hsub]; simp [IntKind.wrap, IntKind.bits, IntKind.signed]; omega
      obtain ⟨t, ht⟩ : ∃ t : Nat, min r (y.dn - q) = t := ⟨_, rfl⟩
      have hmt : (min (r : Int) ((y.dn - q : Nat) : Int)).toNat = t := by omega
      have htk : bv ((y.r.data.drop q).take r) = (bv (y.r.data.drop q)).take t := by
        rw [bv_take]
        by_cases h : r ≤ y.dn - q
        · rw [show t = r by omega]
        · rw [List.take_of_length_le (by rw [bv_length, List.length_drop]; omega), List.take_of_length_le (by rw [bv_length, List.length_drop]; omega)]
      have hR2 : Reads w2 w2.heap.size 1 (aftU y.D y.dc q) t (bv ((y.r.data.drop q).take r)) := by rw [htk]; exact hR.take (by omega)
      have HR2 := hide hR2
      have HTT := hide (show t ≤ 1000000 by omega)
      have HT4 : Hid (T.2 = 0 ∧ T.1 = (y.r.data.drop q).take r) := hide ⟨by rw [HT3.out], by rw [HT3.out]⟩
      have hmx : min (r : Int) ((y.dn - q : Nat) : Int) ≤ ((y.dc - q : Nat) : Int) := by omega
      have hmx0 : 0 ≤ min (r : Int) ((y.dn - q : Nat) : Int) := by omega
      clear hR hR2 htk ht HT3 hyd
      go_wp2_with (rw [hmt])
      refine (Dk.list_any _ t _ _ w2 HR2.out HTT.out).mono ?_
      rintro e w3 ⟨A', c3, rfl, hown, hb3⟩
      have HB3 := hide (HB2.out.trans (hb3.mono HB2.out.size))
      have HOW := hide (own_more hown HB2.out.size)
      clear hown hb3
      go_wp2_with fail
      refine bodyPost_ret (v := .tuple #[.slice A' t c3, .int .i64 0]) (by simp only [results, Tryz.results20]; go_simp) rfl ⟨A', t, c3, by rw [HT4.out.1], by rw [HT4.out.2]; exact HOW.out, HB3.out⟩
  · have hTe : T = ([], E) := by rw [HT.out, if_neg h0]
    subst hTe
    have hEb : (E != 0) = true := bne_iff_ne.2 h0
    clear HT h0
    go_wp2_with fail
    refine bodyPost_ret (v := .tuple #[.slice none 0 0, .int .i64 E]) (by simp only [results, Tryz.results20]; go_simp) rfl ⟨none, 0, 0, rfl, World.ownsRow_nil _ _ _ _, HB2.out⟩
end Go.Proofs.YtlcoapignfmgcaaGreatDoor
namespace Go.Proofs.YtlcoapignfmgcaaGreatDoor
set_option linter.unusedVariables false
def bare (n : ND) : ND := { n with data := [] }
theorem ndAt_bare (l : List ND) (i : Int) : ndAt (l.map bare) i = bare (ndAt l i) := by
  unfold ndAt
  rw [List.getD_eq_getElem?_getD, List.getD_eq_getElem?_getD, List.getElem?_map]
  cases l[i.toNat]? <;> rfl
theorem isDir_bare (l : List ND) (i : Int) : isDir (l.map bare) i = isDir l i := by
  unfold isDir
  rw [ndAt_bare]
  rfl
theorem wk_bare (l : List ND) : ∀ (k : Nat) (up : List (List UInt8)) (d : Int), wk (l.map bare) k up d = wk l k up d
  | 0, _, _ => rfl
  | k + 1, up, d => by
    rw [wk, wk, ndAt_bare]
    show (ndAt l d).names.flatMap _ = _
    congr 1
    funext n
    rw [isDir_bare]
    split
    · rw [wk_bare l k]
    · rfl
theorem allNames_bare (l : List ND) : allNames (l.map bare) = allNames l := by
  unfold allNames
  rw [List.flatMap_map]
  rfl
theorem tree_bare (l : List ND) : treeB (l.map bare) = treeB l := by
  have h1 : reached (l.map bare) = reached l := by
    unfold reached
    rw [List.length_map, wk_bare]
    congr 2
    funext s
    exact isDir_bare l s.node
  have h2 : named (l.map bare) = named l := by
    unfold named
    rw [List.countP_map]
    rfl
  unfold treeB
  rw [h1, h2]
theorem links_bare (l : List ND) : linksB (l.map bare) = linksB l := by
  unfold linksB
  rw [List.length_map]
  congr 1
  funext i
  unfold linkB cnt
  rw [allNames_bare, ndAt_bare, ndAt_bare]
  rfl
theorem data_keeps {l l' : List ND} (h : checkB l = true) (hS : l'.map bare = l.map bare) (hn : ∀ n ∈ l', nodeB n l'.length = true) : checkB l' = true := by
  have hl : l'.length = l.length := by have := congrArg List.length hS; simpa using this
  obtain ⟨h1, h2, h3, h4, h5, _⟩ := checkB_facts h
  unfold checkB
  rw [hl, ← links_bare, ← tree_bare, hS, links_bare, tree_bare, h4, h5]
  simp only [Bool.and_true, Bool.and_eq_true, decide_eq_true_eq, List.all_eq_true]
  exact ⟨⟨h1, h2⟩, fun n hnm => by have := hn n hnm; rwa [hl] at this⟩
theorem modA_bare (l : List ND) (k : Int) (b : List UInt8) : (modA l k fun n => { n with data := b }).map bare = l.map bare := by
  unfold modA
  rw [List.map_set]
  apply List.ext_getElem?
  intro i
  rw [List.getElem?_set]
  split
  · rename_i he
    subst he
    rw [List.length_map]
    split
    · rename_i hlt
      rw [List.getElem?_map, List.getElem?_eq_getElem hlt]
      unfold ndAt
      rw [List.getD_eq_getElem?_getD, List.getElem?_eq_getElem hlt]
      rfl
    · rename_i hlt
      rw [List.getElem?_eq_none (by rw [List.length_map]; omega)]
  · rfl
/-- A file's data may be changed, if it stays short. -/
theorem data_ok {l : List ND} (h : checkB l = true) {k : Nat} (hk : k < l.length) {b : List UInt8} (hkind : (ndAt l (k : Int)).kind = 1) (hb : b.length ≤ 4096) : checkB (modA l (k : Int) fun n => { n with data := b }) = true := by
  refine data_keeps h (modA_bare l _ b) (fun n hn => ?_)
  rw [modA_length]
  unfold modA at hn
  rcases List.mem_or_eq_of_mem_set hn with hn | hn
  · exact (checkB_facts h).2.2.1 n hn
  · have h1 := (checkB_facts h).2.2.1 _ (ndAt_in hk)
    rw [hn]
    unfold nodeB at h1 ⊢
    dsimp only
    rw [if_pos hkind] at h1 ⊢
    simp only [Bool.and_eq_true, decide_eq_true_eq] at h1 ⊢
    exact ⟨h1.1, ⟨hb, h1.2.1.2⟩, h1.2.2⟩
theorem file_kind {l : List ND} {k : Int} (h : fileP l k = 0) : checkB l = true ∧ (ndAt l k).kind = 1 := by
  obtain ⟨m, rfl, hm⟩ := file_in h
  unfold fileP at h
  cases hh : hasP l [(m : Int)] with
  | false => rw [hh] at h; simp at h
  | true =>
    have hc := hasP_check hh
    rw [hh, if_pos rfl] at h
    refine ⟨hc, ?_⟩
    have h1 := (checkB_facts hc).2.2.1 _ (ndAt_in hm)
    unfold nodeB at h1
    by_cases e1 : (ndAt l (m : Int)).kind = 1
    · exact e1
    · rw [if_neg e1] at h1
      by_cases e2 : (ndAt l (m : Int)).kind = 2
      · rw [if_pos e2] at h; omega
      · rw [if_neg e2] at h h1
        by_cases e3 : (ndAt l (m : Int)).kind = 3
        · rw [if_pos e3] at h; omega
        · rw [if_neg e3] at h1; simp at h1
theorem trunc_keeps {l : List ND} (h : checkB l = true) (k : Int) : checkB (truncP l k).1 = true ∧ (truncP l k).1.length = l.length ∧ ((truncP l k).2 ≠ 0 → (truncP l k).1 = l) := by
  unfold truncP
  by_cases h0 : fileP l k = 0
  · rw [if_pos h0]
    obtain ⟨m, rfl, hm⟩ := file_in h0
    exact ⟨data_ok h hm (file_kind h0).2 (by simp), by dsimp only; exact modA_length _ _ _, fun h => absurd rfl h⟩
  · rw [if_neg h0]
    exact ⟨h, rfl, fun _ => rfl⟩
theorem putB_length (old : List UInt8) (off : Nat) (b : List UInt8) (ho : off ≤ 4096) (hl : old.length ≤ 4096) : (putB old off b).length ≤ 4096 := by
  unfold putB
  simp only [List.length_append, List.length_take, List.length_drop, List.length_replicate]
  omega
theorem write_keeps {l : List ND} (h : checkB l = true) (k off : Int) (b : List UInt8) : checkB (writeP l k off b).1 = true ∧ (writeP l k off b).1.length = l.length ∧ ((writeP l k off b).2.2 ≠ 0 → (writeP l k off b).1 = l) := by
  unfold writeP
  by_cases h0 : fileP l k = 0
  · rw [if_pos h0]
    by_cases h1 : off < 0 ∨ 4096 < off
    · rw [if_pos h1]
      exact ⟨h, rfl, fun _ => rfl⟩
    · rw [if_neg h1]
      by_cases h2 : b = []
      · rw [if_pos h2]
        exact ⟨h, rfl, fun _ => rfl⟩
      · rw [if_neg h2]
        by_cases h3 : off = 4096
        · rw [if_pos h3]
          exact ⟨h, rfl, fun _ => rfl⟩
        · rw [if_neg h3]
          obtain ⟨m, rfl, hm⟩ := file_in h0
          have hk := (file_kind h0).2
          have hd : (ndAt l (m : Int)).data.length ≤ 4096 := by
            have h4 := (checkB_facts h).2.2.1 _ (ndAt_in hm)
            unfold nodeB at h4
            rw [if_pos hk] at h4
            simp only [Bool.and_eq_true, decide_eq_true_eq] at h4
            exact h4.2.1.1
          have he : (modA l (m : Int) fun n => { n with data := putB n.data off.toNat b }) = modA l (m : Int) fun n => { n with data := putB (ndAt l (m : Int)).data off.toNat b } := rfl
          refine ⟨?_, by dsimp only; exact modA_length _ _ _, fun h => absurd rfl h⟩
          dsimp only
          rw [he]
          exact data_ok h hm hk (putB_length _ _ _ (by omega) hd)
  · rw [if_neg h0]
    exact ⟨h, rfl, fun _ => rfl⟩
end Go.Proofs.YtlcoapignfmgcaaGreatDoor
