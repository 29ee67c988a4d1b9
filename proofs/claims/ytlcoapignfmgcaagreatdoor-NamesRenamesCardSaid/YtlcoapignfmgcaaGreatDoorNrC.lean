/- The document's Trunc and Read. -/
import Derived.Test.YtlcoapignfmgcaaGreatDoorNrB
namespace Go.Proofs.YtlcoapignfmgcaaGreatDoor
open Go.RowKit
set_option linter.unusedVariables false
theorem own_frozen {w : World} {base : Nat} {t : TypeId} {size n c g : Nat} {xs : List Value} (h : w.ownsRow base t size (.slice (some ⟨g, 0, none⟩) n c) n xs) (j : Nat) : w.frozen? ⟨g, j, none⟩ = false := by
  rcases h.2 with ⟨hv, h0⟩ | ⟨g', cap, cur, hv, hb, hh, _⟩
  · cases hv
  · injection hv with e1 _ _
    injection e1 with e1
    injection e1 with e1 _
    subst e1
    unfold World.frozen?
    rw [hh]
    simp
def RefEnd (w : World) (l' : List ND) (es : List Value) (e : Ending) (w' : World) : Prop :=
  ∃ L' n' c' X', e = .returned (.tuple (Value.agg #[.slice L' n' c'] :: es).toArray) ∧ FsR w' w'.heap.size L' n' X' ∧ nds X' = l' ∧ Below w.heap.size w w'
section
variable {l : List ND} {k : Int}
theorem tr_0 (h : hasP l [k] = false) : truncP l k = (l, 2) := by
  unfold truncP
  rw [fileP_eq, h]
  rfl
theorem tr_1 (h : hasP l [k] = true) {E : Int} (hE : rfileP l k = E) (h0 : E ≠ 0) : truncP l k = (l, E) := by
  unfold truncP
  rw [fileP_eq, h, if_pos rfl, hE, if_neg h0]
theorem tr_2 (h : hasP l [k] = true) (hE : rfileP l k = 0) : truncP l k = (modA l k fun n => { n with data := [] }, 0) := by
  unfold truncP
  rw [fileP_eq, h, if_pos rfl, hE, if_pos rfl]
theorem rd_0 (off n : Int) (h : hasP l [k] = false) : readP l k off n = ([], 2) := by
  unfold readP
  rw [fileP_eq, h]
  rfl
theorem rd_1 (off n : Int) (h : hasP l [k] = true) {E : Int} (hE : rfileP l k = E) (h0 : E ≠ 0) : readP l k off n = ([], E) := by
  unfold readP
  rw [fileP_eq, h, if_pos rfl, hE, if_neg h0]
theorem rd_2 {off n : Int} (h : hasP l [k] = true) (hE : rfileP l k = 0) (h1 : off < 0 ∨ n < 0) : readP l k off n = ([], 2) := by
  unfold readP
  rw [fileP_eq, h, if_pos rfl, hE, if_pos rfl, if_pos h1]
theorem rd_3 {off n : Int} (h : hasP l [k] = true) (hE : rfileP l k = 0) (h1 : ¬ (off < 0 ∨ n < 0)) : readP l k off n = (((ndAt l k).data.drop off.toNat).take n.toNat, 0) := by
  unfold readP
  rw [fileP_eq, h, if_pos rfl, hE, if_pos rfl, if_neg h1]
end
set_option maxRecDepth 100000 in
set_option maxHeartbeats 16000000 in
theorem rtrunc_c (L : Option Addr) (n c : Nat) (X : List DV) (k : Int) (w : World) (hF : FsR w w.heap.size L n X) (hB : FewB X) :
    Calls Tryz.prog 23 #[.agg #[.slice L n c], .int .i64 k] w (RefEnd w (truncP (nds X) k).1 [.int .i64 (truncP (nds X) k).2]) := by
  have hl := hF.len
  have hln : (nds X).length = n := by rw [nds_length, hl]
  obtain ⟨W1, hW1⟩ : ∃ W, (w.alloc (.cells #[.slice L n c] 24)).alloc (.cells #[.slice none 0 0] 24) = W := ⟨_, rfl⟩
  have HX : Hid (Blk W1 w.heap.size 24 #[.slice L n c]) := hide (by rw [← hW1]; exact (Blk.new w _ _).alloc _)
  have HY : Hid (Blk W1 (w.heap.size + 1) 24 #[.slice none 0 0]) := hide (by rw [← hW1]; have := Blk.new (w.alloc (.cells #[.slice L n c] 24)) 24 #[.slice none 0 0]; simpa only [World.size_alloc] using this)
  have b1 : Below w.heap.size w W1 := by rw [← hW1]; exact (on_alloc w _).trans ((on_alloc _ _).mono (by simp))
  have HF := hide (fun (W : World) (hW : Below w.heap.size w W) => (hF.below hW).more hW.size)
  have HHI := hide (fun (x : DV) (hx : x ∈ X) => hi_of (hF.ok x hx).d)
  have HFW := hide hB
  have HB := hide b1
  have HLN := hide hln
  have XK := hide (rknown_c L n c X k k W1 (HF.out W1 b1) hB)
  obtain ⟨hk, hhk⟩ : ∃ b, hasP (nds X) [k] = b := ⟨_, rfl⟩
  rw [has_two, hhk] at XK
  have HH := hide hhk
  obtain ⟨T, hT⟩ : ∃ T, truncP (nds X) k = T := ⟨_, rfl⟩
  have HT := hide hT
  rw [hT]
  have k0 := one_ HX.out
  clear hF hB b1 hl hln hhk hT
  go_enter Tryz.func23, Tryz.ntmps23
  go_wp2_with (rw [hW1])
  refine XK.out.mono ?_
  rintro e w2 ⟨rfl, hb2⟩
  have HX2 := hide (HX.out.below hb2 HX.out.lt)
  have HY2 := hide (HY.out.below hb2 HY.out.lt)
  have HB2 := hide (HB.out.trans (hb2.mono HB.out.size))
  clear hb2 k0 HX HB XK hW1 HY
  cases hk with
  | false =>
    have hTe : T = (nds X, 2) := by rw [← HT.out]; exact tr_0 HH.out
    subst hTe
    have k5 := one_ HX2.out
    have k6 := HY2.out.frozen 0
    have k7 := one_ HY2.out
    have k8 := HY2.out.lt
    have HBE : Hid (Below w.heap.size w (w2.setCell ⟨w.heap.size + 1, 0, none⟩ (.slice L n c))) := hide (HB2.out.setCell (p := ⟨w.heap.size + 1, 0, none⟩) (by show w.heap.size ≤ w.heap.size + 1; omega) _)
    clear HT
    go_wp2_with fail
    refine bodyPost_ret (v := .tuple #[.agg #[.slice L n c], .int .i64 2]) (by simp only [results, Tryz.results23]; go_simp) rfl ?_
    first | exact ⟨L, n, c, X, rfl, HF.out _ HBE.out, rfl, HBE.out⟩ | exact ⟨L, n, c, rfl, X, HF.out _ HBE.out, rfl, HBE.out⟩
  | true =>
    obtain ⟨m, rfl, hml⟩ := hasP_in HH.out (List.mem_singleton.2 rfl)
    have hm : m < n := by have := HLN.out; omega
    have XE := hide (rfile_c L n c X m w2 (HF.out w2 HB2.out) hm)
    obtain ⟨E, hE⟩ : ∃ E, rfileP (nds X) (m : Int) = E := ⟨_, rfl⟩
    rw [hE] at XE
    have HE := hide hE
    have k0 := one_ HX2.out
    clear hE
    go_wp2_with fail
    refine XE.out.mono ?_
    rintro e w3 ⟨rfl, hb3⟩
    have HX3 := hide (HX2.out.below hb3 HX2.out.lt)
    have HY3 := hide (HY2.out.below hb3 HY2.out.lt)
    have HB3 := hide (HB2.out.trans (hb3.mono HB2.out.size))
    clear hb3 k0 HX2 HB2 XE HY2
    by_cases h0 : E = 0
    · subst h0
      have XC := hide (rcopied_c L n c X w.heap.size w3 (HF.out w3 HB3.out) HFW.out HB3.out.size HHI.out)
      have k0 := one_ HX3.out
      go_wp2_with fail
      refine XC.out.mono ?_
      rintro e w4 ⟨L', c', X', rfl, hO, hR, hb4⟩
      obtain ⟨W5, hW5⟩ : ∃ W, w4.alloc (.cells #[.slice L' n c'] 24) = W := ⟨_, rfl⟩
      have b5 : Below w4.heap.size w4 W5 := by rw [← hW5]; exact on_alloc _ _
      have b35 := hb4.trans (b5.mono hb4.size)
      have HP5 : Hid (Blk W5 w4.heap.size 24 #[.slice L' n c']) := hide (by rw [← hW5]; exact Blk.new w4 _ _)
      have HY5 := hide (HY3.out.below b35 HY3.out.lt)
      have hO5 := hO.below b5
      have HB5 := hide (HB3.out.trans (b35.mono HB3.out.size))
      obtain ⟨g, rfl, hgC, hgl⟩ := hO.addr (by omega)
      obtain ⟨x, hx⟩ : ∃ x, X'[m]? = some x := ⟨_, List.getElem?_eq_getElem (by have := hO5.len; omega)⟩
      have hxm := List.mem_of_getElem? hx
      have hxok := hO5.ok x hxm
      have hO6 := hO5.set_ HB3.out.size (k := m) (j := 3) (x' := ⟨{ x.r with data := [] }, none, 0, 0, x.M, x.mn, x.mc⟩) (v := .slice none 0 0) hm (by omega) (fun y hy => by rw [hx] at hy; injection hy with hy; subst hy; rfl)
        ⟨Reads.none_, hxok.n⟩ (hO5.off _ rfl x hxm) (hO5.lo x hxm) (fun hn ad e => by cases e) (hO5.cap x hxm)
      obtain ⟨-, hfz⟩ : True ∧ ∀ j, W5.frozen? ⟨g, j, none⟩ = false := ⟨trivial, fun j => own_frozen hO5.own j⟩
      have hfx := hfz (m * 6 + 3)
      have hcx : W5.cell? ⟨g, m * 6 + 3, none⟩ = some (.slice x.D x.dn x.dc) := by
        obtain ⟨hml', hxe⟩ := List.getElem?_eq_some_iff.1 hx
        rw [World.ownsRow.cellAt hO5.own (m * 6 + 3) (by omega), dcs_at X' m 3 hml' (by omega), hxe]
        rfl
      have j1 := fun W => nd_at0 g n c' m (m : Int) rfl hm W
      obtain ⟨W6, hW6⟩ : ∃ W, W5.setCell ⟨g, m * 6 + 3, none⟩ (.slice none 0 0) = W := ⟨_, rfl⟩
      rw [hW6] at hO6
      have hP6 : Blk W6 w4.heap.size 24 #[.slice (some ⟨g, 0, none⟩) n c'] := by rw [← hW6]; exact HP5.out.far (p := ⟨g, m * 6 + 3, none⟩) (by show w4.heap.size ≠ g; omega) _
      have hY6 : Blk W6 (w.heap.size + 1) 24 #[.slice none 0 0] := by rw [← hW6]; exact HY5.out.far (p := ⟨g, m * 6 + 3, none⟩) (by show w.heap.size + 1 ≠ g; have := HY3.out.lt; omega) _
      have hb6 : Below w.heap.size w W6 := by rw [← hW6]; exact HB5.out.setCell (p := ⟨g, m * 6 + 3, none⟩) (by show w.heap.size ≤ g; have := HB3.out.size; omega) _
      have hO7 := hO6.far (p := ⟨w.heap.size + 1, 0, none⟩) (by show w.heap.size ≤ w.heap.size + 1; omega) (by show w.heap.size + 1 < w3.heap.size; exact HY3.out.lt) (.slice (some ⟨g, 0, none⟩) n c')
      have HEND := hide (And.intro hO7.fs (hb6.setCell (p := ⟨w.heap.size + 1, 0, none⟩) (by show w.heap.size ≤ w.heap.size + 1; omega) (.slice (some ⟨g, 0, none⟩) n c')))
      have hTe : T = (modA (nds X) (m : Int) fun n => { n with data := [] }, 0) := by rw [← HT.out]; exact tr_2 HH.out HE.out
      have hls : nds (X'.set m ⟨{ x.r with data := [] }, none, 0, 0, x.M, x.mn, x.mc⟩) = modA (nds X) (m : Int) fun n => { n with data := [] } := by
        unfold modA
        rw [nds_set, ← hR, nds_at hx]
        rfl
      have HLS := hide hls
      have k1 := one_ HP5.out
      have k2 := one_ hP6
      have k3 := one_ hY6
      have k4 := hY6.frozen 0
      have k5 := hY6.lt
      subst hTe
      clear hO hR hb4 b5 b35 hO5 hxok hO6 hfz hP6 hY6 hb6 hO7 hls hx hxm HT XC k0
      go_wp2_with (first | rw [hW5] | rw [hW6])
      refine bodyPost_ret (v := .tuple #[.agg #[.slice (some ⟨g, 0, none⟩) n c'], .int .i64 0]) (by simp only [results, Tryz.results23]; go_simp) rfl ?_
      first | exact ⟨_, _, _, _, rfl, HEND.out.1, HLS.out, HEND.out.2⟩ | exact ⟨_, _, _, rfl, _, HEND.out.1, HLS.out, HEND.out.2⟩
    · have hEb : (E != 0) = true := bne_iff_ne.2 h0
      have H0 := hide h0
      clear h0
      have hTe : T = (nds X, E) := by rw [← HT.out]; exact tr_1 HH.out HE.out H0.out
      subst hTe
      have k5 := one_ HX3.out
      have k6 := HY3.out.frozen 0
      have k7 := one_ HY3.out
      have k8 := HY3.out.lt
      have HBE : Hid (Below w.heap.size w (w3.setCell ⟨w.heap.size + 1, 0, none⟩ (.slice L n c))) := hide (HB3.out.setCell (p := ⟨w.heap.size + 1, 0, none⟩) (by show w.heap.size ≤ w.heap.size + 1; omega) _)
      clear HT
      go_wp2_with fail
      refine bodyPost_ret (v := .tuple #[.agg #[.slice L n c], .int .i64 E]) (by simp only [results, Tryz.results23]; go_simp) rfl ?_
      first | exact ⟨L, n, c, X, rfl, HF.out _ HBE.out, rfl, HBE.out⟩ | exact ⟨L, n, c, rfl, X, HF.out _ HBE.out, rfl, HBE.out⟩
def RReadEnd (w : World) (r : List UInt8 × Int) (e : Ending) (w' : World) : Prop :=
  ∃ A n c, e = .returned (.tuple #[.slice A n c, .int .i64 r.2]) ∧ Rd w' A n r.1 ∧ Below w.heap.size w w'
set_option maxRecDepth 100000 in
set_option maxHeartbeats 16000000 in
theorem rread_c (L : Option Addr) (n c : Nat) (X : List DV) (k off q : Int) (w : World) (hF : FsR w w.heap.size L n X) (hB : FewB X) (hcap : ∀ x ∈ X, x.dn ≤ x.dc) :
    Calls Tryz.prog 21 #[.agg #[.slice L n c], .int .i64 k, .int .i64 off, .int .i64 q] w (RReadEnd w (readP (nds X) k off q)) := by
  have HCAP := hide hcap
  clear hcap
  have hl := hF.len
  have hln : (nds X).length = n := by rw [nds_length, hl]
  obtain ⟨W1, hW1⟩ : ∃ W, w.alloc (.cells #[.slice L n c] 24) = W := ⟨_, rfl⟩
  have HX : Hid (Blk W1 w.heap.size 24 #[.slice L n c]) := hide (by rw [← hW1]; exact (Blk.new w _ _))
  have b1 : Below w.heap.size w W1 := by rw [← hW1]; exact on_alloc _ _
  have HF := hide (fun (W : World) (hW : Below w.heap.size w W) => (hF.below hW).more hW.size)
  have HHI := hide (fun (x : DV) (hx : x ∈ X) => hi_of (hF.ok x hx).d)
  have HFW := hide hB
  have HB := hide b1
  have HLN := hide hln
  have XK := hide (rknown_c L n c X k k W1 (HF.out W1 b1) hB)
  obtain ⟨hk, hhk⟩ : ∃ b, hasP (nds X) [k] = b := ⟨_, rfl⟩
  rw [has_two, hhk] at XK
  have HH := hide hhk
  obtain ⟨T, hT⟩ : ∃ T, readP (nds X) k off q = T := ⟨_, rfl⟩
  have HT := hide hT
  rw [hT]
  have k0 := one_ HX.out
  clear hF hB b1 hl hln hhk hT
  go_enter Tryz.func21, Tryz.ntmps21
  go_wp2_with (rw [hW1])
  refine XK.out.mono ?_
  rintro e w2 ⟨rfl, hb2⟩
  have HX2 := hide (HX.out.below hb2 HX.out.lt)
  
  have HB2 := hide (HB.out.trans (hb2.mono HB.out.size))
  clear hb2 k0 HX HB XK hW1 
  cases hk with
  | false =>
    have hTe : T = ([], 2) := by rw [← HT.out]; exact rd_0 off q HH.out
    subst hTe
    have k5 := one_ HX2.out
    have HBE := hide HB2.out
    clear HT
    go_wp2_with fail
    refine bodyPost_ret (v := .tuple #[.slice none 0 0, .int .i64 2]) (by simp only [results, Tryz.results21]; go_simp) rfl ?_
    exact ⟨none, 0, 0, rfl, Reads.none_, HBE.out⟩
  | true =>
    obtain ⟨m, rfl, hml⟩ := hasP_in HH.out (List.mem_singleton.2 rfl)
    have hm : m < n := by have := HLN.out; omega
    have XE := hide (rfile_c L n c X m w2 (HF.out w2 HB2.out) hm)
    obtain ⟨E, hE⟩ : ∃ E, rfileP (nds X) (m : Int) = E := ⟨_, rfl⟩
    rw [hE] at XE
    have HE := hide hE
    have k0 := one_ HX2.out
    clear hE
    go_wp2_with fail
    refine XE.out.mono ?_
    rintro e w3 ⟨rfl, hb3⟩
    have HX3 := hide (HX2.out.below hb3 HX2.out.lt)
    
    have HB3 := hide (HB2.out.trans (hb3.mono HB2.out.size))
    clear hb3 k0 HX2 HB2 XE 
    by_cases h0 : E = 0
    · subst h0
      by_cases ho : off < 0
      · have HH1 := hide (show off < 0 ∨ q < 0 from .inl ho)
        have hTe : T = ([], 2) := by rw [← HT.out]; exact rd_2 HH.out HE.out HH1.out
        subst hTe
        have k5 := one_ HX3.out
        have HBE := hide HB3.out
        clear HT
        go_wp2_with fail
        refine bodyPost_ret (v := .tuple #[.slice none 0 0, .int .i64 2]) (by simp only [results, Tryz.results21]; go_simp) rfl ?_
        exact ⟨none, 0, 0, rfl, Reads.none_, HBE.out⟩
      by_cases hq : q < 0
      · have HH1 := hide (show off < 0 ∨ q < 0 from .inr hq)
        have hTe : T = ([], 2) := by rw [← HT.out]; exact rd_2 HH.out HE.out HH1.out
        subst hTe
        have k5 := one_ HX3.out
        have HBE := hide HB3.out
        clear HT
        go_wp2_with fail
        refine bodyPost_ret (v := .tuple #[.slice none 0 0, .int .i64 2]) (by simp only [results, Tryz.results21]; go_simp) rfl ?_
        exact ⟨none, 0, 0, rfl, Reads.none_, HBE.out⟩
      have HH1 := hide (show ¬ (off < 0 ∨ q < 0) from fun h => h.elim ho hq)
      obtain ⟨of, rfl⟩ : ∃ q : Nat, off = (q : Int) := ⟨off.toNat, by omega⟩
      obtain ⟨qn, rfl⟩ : ∃ z : Nat, q = (z : Int) := ⟨q.toNat, by omega⟩
      obtain ⟨g0, o0, y, hL, hg0, hy, hyok, hyc⟩ := (HF.out w3 HB3.out).at_ hm
      subst hL
      obtain ⟨d0, d1, d2, d3, d4, d5⟩ := hyc
      have i1 := fun W => nd_at g0 o0 n c m (m : Int) rfl hm W
      have hym := List.mem_of_getElem? hy
      have hyl := hyok.dl
      have hyd := hyok.d
      have hycap := HCAP.out y hym
      have hyf := (HFW.out.each y hym).d
      have k0 := one_ HX3.out
      have HT3 : Hid (T = ((y.r.data.drop of).take qn, 0)) := hide (by rw [← HT.out, rd_3 HH.out HE.out HH1.out, nds_at hy, Int.toNat_natCast, Int.toNat_natCast])
      clear HT hy hym hyok
      by_cases hdo : y.dn ≤ of
      · have hTe : T = ([], 0) := by rw [HT3.out, List.drop_of_length_le (by omega)]; simp
        subst hTe
        have hge : (y.dn : Int) ≤ (of : Int) := by omega
        have HBE := hide HB3.out
        clear HT3
        go_wp2_with fail
        refine bodyPost_ret (v := .tuple #[.slice none 0 0, .int .i64 0]) (by simp only [results, Tryz.results21]; go_simp) rfl ?_
        exact ⟨none, 0, 0, rfl, Reads.none_, HBE.out⟩
      · have hge : ¬ (y.dn : Int) ≤ (of : Int) := by omega
        obtain ⟨t, HTT⟩ : ∃ t : Nat, Hid (min qn (y.dn - of) = t) := ⟨_, hide rfl⟩
        have hsub : ((y.dn : Nat) : Int) - (of : Int) = ((y.dn - of : Nat) : Int) := by omega
        have hw1 : IntKind.i64.wrap ((y.dn : Int) - (of : Int)) = ((y.dn - of : Nat) : Int) := by rw [hsub]; simp [IntKind.wrap, IntKind.bits, IntKind.signed]; omega
        have hmin : min (qn : Int) ((y.dn - of : Nat) : Int) = (t : Int) := by have := HTT.out; omega
        have ht : of + t ≤ y.dn := by have := HTT.out; omega
        have hw2 : IntKind.i64.wrap ((of : Int) + (t : Int)) = (of : Int) + (t : Int) := by simp [IntKind.wrap, IntKind.bits, IntKind.signed]; omega
        have s1 := fun W => sl_lhU y.D y.dn y.dc of (of + t) (by omega) (by omega) W
        rw [Nat.add_sub_cancel_left] at s1
        rw [Int.natCast_add] at s1
        have hR := (hyd.aftu (q := of) (by omega) hycap).take (q := t) (by omega)
        have htk : (bv (y.r.data.drop of)).take t = bv ((y.r.data.drop of).take qn) := by
          rw [bv_take]
          by_cases h : qn ≤ y.dn - of
          · rw [show t = qn by have := HTT.out; omega]
          · rw [List.take_of_length_le (by rw [bv_length, List.length_drop]; have := HTT.out; omega), List.take_of_length_le (by rw [bv_length, List.length_drop]; omega)]
        rw [htk] at hR
        obtain ⟨V5, hV5⟩ : ∃ W, w3.alloc (.cells #[] 5) = W := ⟨_, rfl⟩
        have b5 : Below w3.heap.size w3 V5 := by rw [← hV5]; exact on_alloc _ _
        have hE5 : Blk V5 w3.heap.size 5 #[] := by rw [← hV5]; exact Blk.new w3 _ _
        have hown5 : V5.ownsRow w3.heap.size 5 1 (.slice (some ⟨w3.heap.size, 0, none⟩) 0 0) 0 [] := ⟨rfl, .inr ⟨w3.heap.size, 0, #[], rfl, Nat.le_refl _, hE5, Nat.le_refl _, by unfold maxLen; omega, rfl, rfl⟩⟩
        have HOWN := hide hown5
        have HR5 := hide ((hR.below b5).more b5.size)
        have HB5 := hide b5
        have HS5 := hide b5.size
        have kd := d3
        have k05 := one_ (HX3.out.below b5 HX3.out.lt)
        have e3 := (Below.cell b5 (p := ⟨g0, o0 + m * 6 + 3, none⟩) hg0).trans d3
        obtain ⟨i0, hi0, hz0, hz1, hz2⟩ := info_parts infoU8
        have HT4 : Hid (T.2 = 0 ∧ T.1 = (y.r.data.drop of).take qn) := hide ⟨by rw [HT3.out], by rw [HT3.out]⟩
        clear hR htk HT3 hyd b5 hE5 hown5
        go_wp2_with (first | rw [hmin] | rw [hV5] | (at_builtin; (refine wpList_append_any _ rfl (.tmp 39) (.tmp 50) 25 rfl w3.heap.size 5 i0 _ 1 1 Tryz.underlying25 hi0 hz0 hz1 hz2 rfl (by omega) (.slice (some ⟨w3.heap.size, 0, none⟩) 0 0) 0 [] rfl HOWN.out V5.heap.size (aftU y.D y.dc of) t (y.dc - of) (bv ((y.r.data.drop of).take qn)) rfl HR5.out ?h1 ?c1 ?c2 ?c3 ?_)))
        case h1 => exact bv_one _
        case c1 => unfold maxLen; omega
        case c2 => omega
        case c3 => exact HS5.out
        intro v1 V6 hown hg hat
        obtain ⟨A6, c6, rfl⟩ := own_slice hown
        have b6 : Below w3.heap.size w3 V6 := HB5.out.grown hg HS5.out (fun z hz => Nat.le_of_eq (by simpa [Value.ownBlock] using hz))
        have HEND := hide (And.intro (Reads.of_own hown) (HB3.out.trans (b6.mono HB3.out.size)))
        clear hown hg hat b6
        go_wp2_with fail
        refine bodyPost_ret (v := .tuple #[.slice A6 t c6, .int .i64 0]) (by simp only [results, Tryz.results21]; go_simp) rfl ?_
        exact ⟨A6, t, c6, by rw [HT4.out.1], by rw [HT4.out.2]; exact HEND.out.1, HEND.out.2⟩
    · have hEb : (E != 0) = true := bne_iff_ne.2 h0
      have H0 := hide h0
      clear h0
      have hTe : T = ([], E) := by rw [← HT.out]; exact rd_1 off q HH.out HE.out H0.out
      subst hTe
      have k5 := one_ HX3.out
      have HBE := hide HB3.out
      clear HT
      go_wp2_with fail
      refine bodyPost_ret (v := .tuple #[.slice none 0 0, .int .i64 E]) (by simp only [results, Tryz.results21]; go_simp) rfl ?_
      exact ⟨none, 0, 0, rfl, Reads.none_, HBE.out⟩
end Go.Proofs.YtlcoapignfmgcaaGreatDoor
