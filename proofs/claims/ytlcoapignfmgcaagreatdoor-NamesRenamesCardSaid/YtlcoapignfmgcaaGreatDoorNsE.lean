/- The document's Create. -/
import Derived.Test.YtlcoapignfmgcaaGreatDoorNsD
namespace Go.Proofs.YtlcoapignfmgcaaGreatDoor
open Go.RowKit
set_option linter.unusedVariables false
def rootX : ND := ⟨2, 7, 1, [], [⟨[120], 1⟩], []⟩
theorem check_xn (n : ND) (hn : n.names = []) : checkB [rootX, n] = checkB [rootN, n] := by
  have h1 : nodeB rootX 2 = nodeB rootN 2 := by decide
  have h2 : linksB [rootX, n] = linksB [rootN, n] := rfl
  have h3 : treeB [rootX, n] = treeB [rootN, n] := by
    have : reached [rootX, n] = reached [rootN, n] := by
      obtain ⟨kd, md, lk, da, nm, tt⟩ := n
      dsimp only at hn
      subst hn
      unfold reached
      by_cases h : kd = 2
      · simp [wk, ndAt, rootX, rootN, nameN, isDir, h]
      · simp [wk, ndAt, rootX, rootN, nameN, isDir, h]
    unfold treeB
    rw [this]
    rfl
  unfold checkB
  rw [h2, h3]
  show (_ && ([rootX, n].all fun m => nodeB m 2) && _ && _) = (_ && ([rootN, n].all fun m => nodeB m 2) && _ && _)
  simp only [List.all_cons, List.all_nil, h1]
  rfl
section
variable {l : List ND} {d : Int} {s : List UInt8} {n : ND}
theorem cr_0 (h : hasP l [d] = false) : createP l d s n = (l, 0, 2) := by
  unfold createP
  rw [h]
  rfl
theorem cr_1 (h : creatableP n = false) : createP l d s n = (l, 0, 2) := by
  unfold createP
  rw [h, Bool.and_false]
  rfl
theorem cr_2 (h : hasP l [d] = true) (hc : creatableP n = true) {E : Int} (hE : nameC s = E) (h0 : E ≠ 0) : createP l d s n = (l, 0, E) := by
  unfold createP
  rw [h, hc]
  simp [firstP, hE, h0]
theorem cr_3 (h : hasP l [d] = true) (hc : creatableP n = true) (hn : nameC s = 0) {E : Int} (hE : writableP l d = E) (h0 : E ≠ 0) : createP l d s n = (l, 0, E) := by
  unfold createP
  rw [h, hc]
  simp [firstP, hn, hE, h0]
theorem cr_4 (h : hasP l [d] = true) (hc : creatableP n = true) (hn : nameC s = 0) (hw : writableP l d = 0) {i : Int} (hl : lkP l d s = (i, true)) : createP l d s n = (l, 0, 21) := by
  unfold createP
  rw [h, hc]
  simp [firstP, hn, hw, absentP, hl]
theorem cr_5 (h : hasP l [d] = true) (hc : creatableP n = true) (hn : nameC s = 0) (hw : writableP l d = 0) {i : Int} (hl : lkP l d s = (i, false)) (hx : l.length < 256) : createP l d s n = (insP (l ++ [{ n with links := 0 }]) d s l.length, (l.length : Int), 0) := by
  have h1 : ¬ (256 ≤ l.length) := by omega
  unfold createP
  rw [h, hc]
  simp [firstP, hn, hw, absentP, hl, h1]
end
set_option maxRecDepth 100000 in
set_option maxHeartbeats 16000000 in
theorem rcreate_c (L : Option Addr) (n c : Nat) (X : List DV) (d : Int) (s : List UInt8) (x : DV) (w : World) (hF : FsR w w.heap.size L n X) (hB : FewB X) (hsl : s.length ≤ 1000000) (hok : DVok w w.heap.size x) (hfx : FewT x) :
    Calls Tryz.prog 10 #[.agg #[.slice L n c], .int .i64 d, .string ⟨s.toArray⟩, .agg x.cs.toArray] w (RefEnd w (createP (nds X) d s x.r).1 [.int .i64 (createP (nds X) d s x.r).2.1, .int .i64 (createP (nds X) d s x.r).2.2]) := by
  have hl := hF.len
  have hln : (nds X).length = n := by rw [nds_length, hl]
  obtain ⟨W1, hW1⟩ : ∃ W, ((w.alloc (.cells #[.slice L n c] 24)).alloc (.cells x.cs.toArray 28)).alloc (.cells #[.slice none 0 0] 24) = W := ⟨_, rfl⟩
  have HX : Hid (Blk W1 w.heap.size 24 #[.slice L n c]) := hide (by rw [← hW1]; exact ((Blk.new w _ _).alloc _).alloc _)
  have HN : Hid (Blk W1 (w.heap.size + 1) 28 x.cs.toArray) := hide (by rw [← hW1]; have := (Blk.new (w.alloc (.cells #[.slice L n c] 24)) 28 x.cs.toArray).alloc (.cells #[.slice none 0 0] 24); simpa only [World.size_alloc] using this)
  have HY : Hid (Blk W1 (w.heap.size + 2) 24 #[.slice none 0 0]) := hide (by rw [← hW1]; have := Blk.new ((w.alloc (.cells #[.slice L n c] 24)).alloc (.cells x.cs.toArray 28)) 24 #[.slice none 0 0]; simpa only [World.size_alloc] using this)
  have b1 : Below w.heap.size w W1 := by rw [← hW1]; exact (((Below.refl _ _).alloc (Nat.le_refl _) _).alloc (by simp) _).alloc (by simp; omega) _
  have HF := hide (fun (W : World) (hW : Below w.heap.size w W) => (hF.below hW).more hW.size)
  have HK := hide (fun (W : World) (hW : Below w.heap.size w W) => (hok.below hW).more hW.size)
  have HHI := hide (fun (x : DV) (hx : x ∈ X) => hi_of (hF.ok x hx).d)
  have HHX := hide (hi_of hok.d)
  have HFW := hide hB
  have HFX := hide hfx
  have HB := hide b1
  have HLN := hide hln
  have HNL := hide hok.nl
  have XK := hide (rknown_c L n c X d d W1 (HF.out W1 b1) hB)
  obtain ⟨hk, hhk⟩ : ∃ b, hasP (nds X) [d] = b := ⟨_, rfl⟩
  rw [has_two, hhk] at XK
  have HH := hide hhk
  obtain ⟨T, hT⟩ : ∃ T, createP (nds X) d s x.r = T := ⟨_, rfl⟩
  have HT := hide hT
  rw [hT]
  have HCR := hide (creat_eq x.r)
  have k0 := one_ HX.out
  clear hF hB b1 hl hln hhk hT hok hfx
  obtain ⟨⟨kd, md, lk, da, nm, tt⟩, D, dn, dc, M, mn, mc⟩ := x
  unfold DV.cs at HN hW1
  dsimp only at HN hW1 HNL HT HCR HHX
  unfold DV.cs
  dsimp only
  go_enter Tryz.func10, Tryz.ntmps10
  go_wp2_with (rw [hW1])
  refine XK.out.mono ?_
  rintro e w2 ⟨rfl, hb2⟩
  have HX2 := hide (HX.out.below hb2 HX.out.lt)
  have HN2 := hide (HN.out.below hb2 HN.out.lt)
  have HY2 := hide (HY.out.below hb2 HY.out.lt)
  have HB2 := hide (HB.out.trans (hb2.mono HB.out.size))
  clear hb2 k0 HX HB XK hW1 HY HN
  cases hk with
  | false =>
    have hTe : T = (nds X, 0, 2) := by rw [← HT.out]; exact cr_0 HH.out
    subst hTe
    have k5 := one_ HX2.out
    have k6 := HY2.out.frozen 0
    have k7 := one_ HY2.out
    have k8 := HY2.out.lt
    have HBE : Hid (Below w.heap.size w (w2.setCell ⟨w.heap.size + 2, 0, none⟩ (.slice L n c))) := hide (HB2.out.setCell (p := ⟨w.heap.size + 2, 0, none⟩) (by show w.heap.size ≤ w.heap.size + 2; omega) _)
    clear HT
    go_wp2_with fail
    refine bodyPost_ret (v := .tuple #[.agg #[.slice L n c], .int .i64 0, .int .i64 2]) (by simp only [results, Tryz.results10]; go_simp) rfl ?_
    first | exact ⟨L, n, c, X, rfl, HF.out _ HBE.out, rfl, HBE.out⟩ | exact ⟨L, n, c, rfl, X, HF.out _ HBE.out, rfl, HBE.out⟩
  | true =>
    obtain ⟨m, rfl, hml⟩ := hasP_in HH.out (List.mem_singleton.2 rfl)
    have hm : m < n := by have := HLN.out; omega
    have HCK := hide (hasP_check HH.out)
    have HMO := hide (at_mode HCK.out hml)
    have HSO := hide (at_sorted HCK.out hml)
    have HML := hide hml
    obtain ⟨n0, n1, n2, n3, n4, n5⟩ := six HN2.out
    clear hml
    by_cases h0 : mn = 0
    · subst h0
      have hnm : nm = [] := List.eq_nil_of_length_eq_zero HNL.out
      subst hnm
      have f2 := HN2.out.frozen 2
      have nl2 := HN2.out.lt
      obtain ⟨W3, hW3⟩ : ∃ W, w2.setCell ⟨w.heap.size + 1, 2, none⟩ (.int .i64 1) = W := ⟨_, rfl⟩
      have HN3 : Hid (Blk W3 (w.heap.size + 1) 28 #[.int .i64 kd, .int .i64 md, .int .i64 1, .slice D dn dc, .slice M 0 mc, .string ⟨tt.toArray⟩]) := hide (by rw [← hW3]; exact HN2.out.set_ 2 _)
      have HX3 : Hid (Blk W3 w.heap.size 24 #[.slice L n c]) := hide (by rw [← hW3]; exact HX2.out.far (p := ⟨w.heap.size + 1, 2, none⟩) (by show w.heap.size ≠ w.heap.size + 1; omega) _)
      have HY3 : Hid (Blk W3 (w.heap.size + 2) 24 #[.slice none 0 0]) := hide (by rw [← hW3]; exact HY2.out.far (p := ⟨w.heap.size + 1, 2, none⟩) (by show w.heap.size + 2 ≠ w.heap.size + 1; omega) _)
      have HB3 : Hid (Below w.heap.size w W3) := hide (by rw [← hW3]; exact HB2.out.setCell (p := ⟨w.heap.size + 1, 2, none⟩) (by show w.heap.size ≤ w.heap.size + 1; omega) _)
      obtain ⟨W4, hW4⟩ : ∃ W, W3.alloc (.cells #[.string ⟨#[120]⟩, .int .i64 1] 59) = W := ⟨_, rfl⟩
      obtain ⟨W5, hW5⟩ : ∃ W, W4.alloc (.cells #[.int .i64 2, .int .i64 7, .int .i64 1, .slice none 0 0, .slice (some ⟨W3.heap.size, 0, none⟩) 1 1, .string ⟨#[]⟩, .int .i64 kd, .int .i64 md, .int .i64 1, .slice D dn dc, .slice M 0 mc, .string ⟨tt.toArray⟩] 28) = W := ⟨_, rfl⟩
      obtain ⟨w6, hW6⟩ : ∃ W, W5.alloc (.cells #[.slice (some ⟨W4.heap.size, 0, none⟩) 2 2] 24) = W := ⟨_, rfl⟩
      have b4 : Below W3.heap.size W3 W4 := by rw [← hW4]; exact on_alloc _ _
      have b5 : Below W4.heap.size W4 W5 := by rw [← hW5]; exact on_alloc _ _
      have b6 : Below W5.heap.size W5 w6 := by rw [← hW6]; exact on_alloc _ _
      have q4 : Blk W4 W3.heap.size 59 #[.string ⟨#[120]⟩, .int .i64 1] := by rw [← hW4]; exact Blk.new _ _ _
      have q5 : Blk W5 W4.heap.size 28 #[.int .i64 2, .int .i64 7, .int .i64 1, .slice none 0 0, .slice (some ⟨W3.heap.size, 0, none⟩) 1 1, .string ⟨#[]⟩, .int .i64 kd, .int .i64 md, .int .i64 1, .slice D dn dc, .slice M 0 mc, .string ⟨tt.toArray⟩] := by rw [← hW5]; exact Blk.new _ _ _
      have q6 : Blk w6 W5.heap.size 24 #[.slice (some ⟨W4.heap.size, 0, none⟩) 2 2] := by rw [← hW6]; exact Blk.new _ _ _
      have b36 : Below W3.heap.size W3 w6 := (b4.trans (b5.mono b4.size)).trans (b6.mono (Nat.le_trans b4.size b5.size))
      have HX6 := hide (HX3.out.below b36 HX3.out.lt)
      have HN6 := hide (HN3.out.below b36 HN3.out.lt)
      have HY6 := hide (HY3.out.below b36 HY3.out.lt)
      have HB6 := hide (HB3.out.trans (b36.mono HB3.out.size))
      have q46 := (q4.below b5 q4.lt).below b6 (Nat.lt_of_lt_of_le q4.lt b5.size)
      have q56 := q5.below b6 q5.lt
      have rn : Reads w6 w6.heap.size 2 (some ⟨W3.heap.size, 0, none⟩) 1 (ncs [⟨[120], 1⟩]) := ⟨rfl, fun _ => ⟨_, rfl, q46.lt, fun j u hj => by
        rw [Addr.add_lit, Nat.zero_add]
        exact (q46.cell j).trans (by rw [List.getElem?_toArray]; exact hj)⟩⟩
      have fs6 : FsR w6 w6.heap.size (some ⟨W4.heap.size, 0, none⟩) 2 [⟨rootX, none, 0, 0, some ⟨W3.heap.size, 0, none⟩, 1, 1⟩, ⟨⟨kd, md, 1, da, [], tt⟩, D, dn, dc, M, 0, mc⟩] := ⟨⟨rfl, fun _ => ⟨_, rfl, q56.lt, fun j u hj => by
          rw [Addr.add_lit, Nat.zero_add]
          exact (q56.cell j).trans (by rw [List.getElem?_toArray]; exact hj)⟩⟩, fun y hy => by
        rcases List.mem_cons.1 hy with rfl | hy
        · exact ⟨Reads.none_, rn⟩
        · rw [List.mem_singleton.1 hy]
          exact ⟨(HK.out w6 HB6.out).d, (HK.out w6 HB6.out).n⟩⟩
      have few6 : FewB [⟨rootX, none, 0, 0, some ⟨W3.heap.size, 0, none⟩, 1, 1⟩, ⟨⟨kd, md, 1, da, [], tt⟩, D, dn, dc, M, 0, mc⟩] := by
        have hx := HFX.out
        refine ⟨by simp, fun y hy => ?_, by simp [upto, rootX]⟩
        rcases List.mem_cons.1 hy with rfl | hy
        · exact ⟨by simp [rootX], by simp [rootX], by simp [rootX], fun z hz => by simp [rootX] at hz; subst hz; simp⟩
        · rw [List.mem_singleton.1 hy]
          exact ⟨hx.d, hx.tt, hx.n, fun z hz => by cases hz⟩
      have XC := hide (rcheck_any (some ⟨W4.heap.size, 0, none⟩) 2 2 _ w6 fs6 few6)
      obtain ⟨ck, hck⟩ : ∃ b, checkB [rootX, ⟨kd, md, 1, da, [], tt⟩] = b := ⟨_, rfl⟩
      have hnd : nds [⟨rootX, none, 0, 0, some ⟨W3.heap.size, 0, none⟩, 1, 1⟩, (⟨⟨kd, md, 1, da, [], tt⟩, D, dn, dc, M, 0, mc⟩ : DV)] = [rootX, ⟨kd, md, 1, da, [], tt⟩] := rfl
      rw [hnd, hck] at XC
      have HCC : Hid (creatableP ⟨kd, md, lk, da, [], tt⟩ = ck) := hide (by rw [HCR.out, ← hck, check_xn _ rfl]; rfl)
      obtain ⟨m0, m1, m2, m3, m4, m5⟩ := six HN3.out
      have a6 := one_ q6
      obtain ⟨j0, j1, j2, j3, j4, j5⟩ := six (HN3.out.below b4 HN3.out.lt)
      clear b4 b5 b6 q4 q5 q6 b36 q46 q56 rn fs6 few6 hck hnd HX2 HN2 HY2 HB2 HX3 HN3 HY3 HB3 HCR
      go_wp2_with (first | rw [hW3] | rw [hW4] | rw [hW5] | rw [hW6])
      clear hW3 hW4 hW5 hW6 a6 j0 j1 j2 j3 j4 j5 f2 nl2 m0 m1 m2 m3 m4 m5 n0 n1 n2 n3 n4 n5
      refine XC.out.mono ?_
      rintro e w7 ⟨rfl, hb7⟩
      have HX7 := hide (HX6.out.below hb7 HX6.out.lt)
      have HN7 := hide (HN6.out.below hb7 HN6.out.lt)
      have HY7 := hide (HY6.out.below hb7 HY6.out.lt)
      have HB7 := hide (HB6.out.trans (hb7.mono HB6.out.size))
      clear hb7 HX6 HB6 XC HY6 HN6
      cases ck with
      | false =>
        have hTe : T = (nds X, 0, 2) := by rw [← HT.out]; exact cr_1 HCC.out
        subst hTe
        have k5 := one_ HX7.out
        have k6 := HY7.out.frozen 0
        have k7 := one_ HY7.out
        have k8 := HY7.out.lt
        have HBE : Hid (Below w.heap.size w (w7.setCell ⟨w.heap.size + 2, 0, none⟩ (.slice L n c))) := hide (HB7.out.setCell (p := ⟨w.heap.size + 2, 0, none⟩) (by show w.heap.size ≤ w.heap.size + 2; omega) _)
        clear HT
        go_wp2_with fail
        refine bodyPost_ret (v := .tuple #[.agg #[.slice L n c], .int .i64 0, .int .i64 2]) (by simp only [results, Tryz.results10]; go_simp) rfl ?_
        first | exact ⟨L, n, c, X, rfl, HF.out _ HBE.out, rfl, HBE.out⟩ | exact ⟨L, n, c, rfl, X, HF.out _ HBE.out, rfl, HBE.out⟩
      | true =>
        have XN := hide (fun (W : World) => rname_any s W hsl)
        obtain ⟨E, hE⟩ : ∃ E, nameC s = E := ⟨_, rfl⟩
        rw [hE] at XN
        have HE := hide hE
        clear hE
        go_wp2_with fail
        refine (XN.out _).mono ?_
        rintro e w8 ⟨rfl, hw⟩
        subst hw
        clear XN
        by_cases h0 : E = 0
        · subst h0
          have XW := hide (rchanged_c L n c X m w7 (HF.out w7 HB7.out) hm HMO.out)
          obtain ⟨E, hE⟩ : ∃ E, writableP (nds X) (m : Int) = E := ⟨_, rfl⟩
          rw [hE] at XW
          have HE2 := hide hE
          clear hE
          have k0 := one_ HX7.out
          go_wp2_with fail
          refine XW.out.mono ?_
          rintro e w9 ⟨rfl, hb9⟩
          have HX9 := hide (HX7.out.below hb9 HX7.out.lt)
          have HN9 := hide (HN7.out.below hb9 HN7.out.lt)
          have HY9 := hide (HY7.out.below hb9 HY7.out.lt)
          have HB9 := hide (HB7.out.trans (hb9.mono HB7.out.size))
          clear hb9 k0 HX7 HN7 HB7 XW HY7
          by_cases h0 : E = 0
          · subst h0
            have XA := hide (rat_c L n c X m s w9 (HF.out w9 HB9.out) HFW.out hm HSO.out)
            rcases at_lk HSO.out (s := s) with ⟨y, ha, hy, hlk⟩ | ⟨ha, hlk⟩
            · rw [ha] at XA
              have HLK := hide hlk
              generalize findP (ndAt (nds X) (m : Int)).names s = F at XA
              have hge : (0 : Int) ≤ (F : Int) := by omega
              clear ha hlk hy
              have k0 := one_ HX9.out
              go_wp2_with fail
              refine XA.out.mono ?_
              rintro e w10 ⟨rfl, hb10⟩
              have HX10 := hide (HX9.out.below hb10 HX9.out.lt)
              have HN10 := hide (HN9.out.below hb10 HN9.out.lt)
              have HY10 := hide (HY9.out.below hb10 HY9.out.lt)
              have HB10 := hide (HB9.out.trans (hb10.mono HB9.out.size))
              clear hb10 k0 HX9 HN9 HB9 XA HY9
              have hTe : T = (nds X, 0, 21) := by rw [← HT.out]; exact cr_4 HH.out HCC.out HE.out HE2.out HLK.out
              subst hTe
              have k5 := one_ HX10.out
              have k6 := HY10.out.frozen 0
              have k7 := one_ HY10.out
              have k8 := HY10.out.lt
              have HBE : Hid (Below w.heap.size w (w10.setCell ⟨w.heap.size + 2, 0, none⟩ (.slice L n c))) := hide (HB10.out.setCell (p := ⟨w.heap.size + 2, 0, none⟩) (by show w.heap.size ≤ w.heap.size + 2; omega) _)
              clear HT
              go_wp2_with fail
              refine bodyPost_ret (v := .tuple #[.agg #[.slice L n c], .int .i64 0, .int .i64 21]) (by simp only [results, Tryz.results10]; go_simp) rfl ?_
              first | exact ⟨L, n, c, X, rfl, HF.out _ HBE.out, rfl, HBE.out⟩ | exact ⟨L, n, c, rfl, X, HF.out _ HBE.out, rfl, HBE.out⟩
            · rw [ha] at XA
              have HLK := hide hlk
              clear ha hlk
              have k0 := one_ HX9.out
              go_wp2_with fail
              refine XA.out.mono ?_
              rintro e w10 ⟨rfl, hb10⟩
              have HX10 := hide (HX9.out.below hb10 HX9.out.lt)
              have HN10 := hide (HN9.out.below hb10 HN9.out.lt)
              have HY10 := hide (HY9.out.below hb10 HY9.out.lt)
              have HB10 := hide (HB9.out.trans (hb10.mono HB9.out.size))
              clear hb10 k0 HX9 HN9 HB9 XA HY9
              have hn100 : n ≤ 100 := by have h1 := HFW.out.n; have h2 := HLN.out; rw [nds_length] at h2; omega
              have hn256 : ¬ (256 ≤ (n : Int)) := by omega
              have XC := hide (rcopied_c L n c X w.heap.size w10 (HF.out w10 HB10.out) HFW.out HB10.out.size HHI.out)
              have k0 := one_ HX10.out
              go_wp2_with fail
              refine XC.out.mono ?_
              rintro e w11 ⟨L', c', X', rfl, hO, hR, hb11⟩
              obtain ⟨W12, hW12⟩ : ∃ W, w11.alloc (.cells #[.slice L' n c'] 24) = W := ⟨_, rfl⟩
              have b12 : Below w11.heap.size w11 W12 := by rw [← hW12]; exact on_alloc _ _
              have b1012 := hb11.trans (b12.mono hb11.size)
              have HP12 : Hid (Blk W12 w11.heap.size 24 #[.slice L' n c']) := hide (by rw [← hW12]; exact Blk.new w11 _ _)
              have HN12 := hide (HN10.out.below b1012 HN10.out.lt)
              have HY12 := hide (HY10.out.below b1012 HY10.out.lt)
              have hO12 := hO.below b12
              have HB12 := hide (HB10.out.trans (b1012.mono HB10.out.size))
              obtain ⟨g, hgC, hgl⟩ : ∃ g, True ∧ True := ⟨0, trivial, trivial⟩
              have HR := hide hR
              have HS11 := hide hb11.size
              have HOFF := hide (fun (x : DV) (hx : x ∈ X') => off_of (hO.ok x hx).n (Nat.le_refl _))
              have HYl := hide HY10.out.lt
              have HBi := hide HB10.out.size
              have HC12 := hide b1012
              have HO12 := hide hO12
              clear hO hR hb11 b12 b1012 hO12 XC k0 HX10 HB10 HY10 HN10 hgC hgl g
              obtain ⟨n0, n1, n2, n3, n4, n5⟩ := six HN12.out
              have k1 := one_ HP12.out
              have f2 := HN12.out.frozen 2
              have nl := HN12.out.lt
              obtain ⟨W13, hW13⟩ : ∃ W, W12.setCell ⟨w.heap.size + 1, 2, none⟩ (.int .i64 0) = W := ⟨_, rfl⟩
              have HN13 : Hid (Blk W13 (w.heap.size + 1) 28 #[.int .i64 kd, .int .i64 md, .int .i64 0, .slice D dn dc, .slice M 0 mc, .string ⟨tt.toArray⟩]) := hide (by rw [← hW13]; exact HN12.out.set_ 2 _)
              have HP13 : Hid (Blk W13 w11.heap.size 24 #[.slice L' n c']) := hide (by rw [← hW13]; exact HP12.out.far (p := ⟨w.heap.size + 1, 2, none⟩) (by show w11.heap.size ≠ w.heap.size + 1; have := HS11.out; have := HYl.out; omega) _)
              have HY13 : Hid (Blk W13 (w.heap.size + 2) 24 #[.slice none 0 0]) := hide (by rw [← hW13]; exact HY12.out.far (p := ⟨w.heap.size + 1, 2, none⟩) (by show w.heap.size + 2 ≠ w.heap.size + 1; omega) _)
              have HB13 : Hid (Below w.heap.size w W13) := hide (by rw [← hW13]; exact HB12.out.setCell (p := ⟨w.heap.size + 1, 2, none⟩) (by show w.heap.size ≤ w.heap.size + 1; omega) _)
              have HO13 : Hid (OG w.heap.size w10.heap.size W13 L' n c' X') := hide (by rw [← hW13]; exact HO12.out.far (p := ⟨w.heap.size + 1, 2, none⟩) (by show w.heap.size ≤ w.heap.size + 1; omega) (by show w.heap.size + 1 < w10.heap.size; have := HYl.out; omega) _)
              obtain ⟨y, hyy⟩ : ∃ y : DV, (⟨⟨kd, md, 0, da, [], tt⟩, D, dn, dc, M, 0, mc⟩ : DV) = y := ⟨_, rfl⟩
              obtain ⟨W14, hW14⟩ : ∃ W, W13.alloc (.cells #[.int .i64 kd, .int .i64 md, .int .i64 0, .slice D dn dc, .slice M 0 mc, .string ⟨tt.toArray⟩] 28) = W := ⟨_, rfl⟩
              have b14 : Below W13.heap.size W13 W14 := by rw [← hW14]; exact on_alloc _ _
              have q14 : Blk W14 W13.heap.size 28 #[.int .i64 kd, .int .i64 md, .int .i64 0, .slice D dn dc, .slice M 0 mc, .string ⟨tt.toArray⟩] := by rw [← hW14]; exact Blk.new _ _ _
              have HRY : Hid (Reads W14 W14.heap.size 6 (some ⟨W13.heap.size, 0, none⟩) 1 [.int .i64 kd, .int .i64 md, .int .i64 0, .slice D dn dc, .slice M 0 mc, .string ⟨tt.toArray⟩]) := hide ⟨rfl, fun _ => ⟨_, rfl, q14.lt, fun j u hj => by
                rw [Addr.add_lit, Nat.zero_add]
                exact (q14.cell j).trans (by rw [List.getElem?_toArray]; exact hj)⟩⟩
              have HO14 := hide (HO13.out.below b14)
              have HP14 := hide (HP13.out.below b14 HP13.out.lt)
              have HY14 := hide (HY13.out.below b14 HY13.out.lt)
              have HB14 := hide (HB13.out.trans (b14.mono HB13.out.size))
              have HDV : Hid (DVok W14 W14.heap.size y) := hide (by rw [← hyy]; exact ⟨(HK.out W14 HB14.out).d, (HK.out W14 HB14.out).n⟩)
              have hs13 : W13.heap.size = W12.heap.size := by rw [← hW13]; simp
              have HS14 : Hid (w10.heap.size ≤ W14.heap.size) := hide (by have h1 := b14.size; have h2 := HC12.out.size; omega)
              obtain ⟨j0, j1, j2, j3, j4, j5⟩ := six HN13.out
              have k13 := one_ HP13.out
              have k14 := one_ HP14.out
              obtain ⟨i2, hi2, hy0, hy1, hy2⟩ := info_parts infoNodeC
              have HYY := hide hyy
              clear b14 q14 hyy hs13 HO12 HO13 HP12 HY12 HB12 HB13 HN12
              go_wp2_with (first | rw [hW12] | rw [hW13] | rw [hW14] | (at_builtin; (refine wpList_append_any _ rfl (.tmp 65) (.tmp 67) 22 rfl w10.heap.size 28 i2 _ 6 88 Tryz.underlying22 hi2 hy0 hy1 hy2 rfl (by omega) (.slice L' n c') n (dcs X') rfl HO14.out.own W14.heap.size (some ⟨W13.heap.size, 0, none⟩) 1 1 [.int .i64 kd, .int .i64 md, .int .i64 0, .slice D dn dc, .slice M 0 mc, .string ⟨tt.toArray⟩] rfl HRY.out ?h1 ?c1 ?c2 ?c3 ?_)))
              case h1 =>
                intro u hu
                simp only [List.mem_cons, List.not_mem_nil, or_false] at hu
                rcases hu with rfl | rfl | rfl | rfl | rfl | rfl <;> rfl
              case c1 => unfold maxLen; omega
              case c2 => omega
              case c3 => exact HS14.out
              intro v1 w15 hown hg hat
              obtain ⟨L2, c2, rfl⟩ := own_slice hown
              have hbase : ∀ a, L' = some a → w10.heap.size ≤ a.block := fun a e => (own_base HO14.out.own a e).1
              have hyw : Hid (y.mn = 0 ∧ y.D = D ∧ y.dn = dn ∧ y.cs = [.int .i64 kd, .int .i64 md, .int .i64 0, .slice D dn dc, .slice M 0 mc, .string ⟨tt.toArray⟩] ∧ y.r = ⟨kd, md, 0, da, [], tt⟩) := hide (by rw [← HYY.out]; exact ⟨rfl, rfl, rfl, rfl, rfl⟩)
              obtain ⟨y1, y2, y3, y4, y5⟩ := hyw.out
              rw [← y4] at hown
              have OP := HO14.out.push HBi.out HDV.out (fun a ha => fun hn ad e he => by omega) (by rw [y1]; exact Lo.zero _ _) (by rw [y2, y3]; exact HHX.out) (by omega) hown hg hat hbase
              have b15 : Below w10.heap.size W14 w15 := (Below.refl _ _).grown hg HS14.out (fun z hz => by
                cases L' with
                | none => simp [Value.ownBlock] at hz
                | some a =>
                  have h1 : a.block = z := by simpa [Value.ownBlock] using hz
                  have h2 := hbase a rfl
                  omega)
              have hne15 : some w11.heap.size ≠ (Value.slice L' n c').ownBlock := fun e => own_blk_ne HO14.out.own HP14.out (by decide) e.symm
              have P15 := HP14.out.grown hg hne15
              have Y15 := HY14.out.below b15 HYl.out
              have B15 := HB14.out.trans (b15.mono HBi.out)
              have OA := OP.aside (p := ⟨w11.heap.size, 0, none⟩) P15 (by decide) (by show w.heap.size ≤ w11.heap.size; have := HBi.out; have := HS11.out; omega) (fun x hx => by
                rcases List.mem_append.1 hx with hx | hx
                · exact HOFF.out x hx
                · rw [List.mem_singleton.1 hx]; exact fun hn ad e he => by omega) (.slice L2 (n + 1) c2)
              obtain ⟨W16, hW16⟩ : ∃ W, w15.setCell ⟨w11.heap.size, 0, none⟩ (.slice L2 (n + 1) c2) = W := ⟨_, rfl⟩
              have hs11 := HS11.out
              have hyl := HYl.out
              have P16 : Blk W16 w11.heap.size 24 #[.slice L2 (n + 1) c2] := by rw [← hW16]; exact P15.set_ 0 _
              have Y16 : Blk W16 (w.heap.size + 2) 24 #[.slice none 0 0] := by rw [← hW16]; exact Y15.far (p := ⟨w11.heap.size, 0, none⟩) (by show w.heap.size + 2 ≠ w11.heap.size; omega) _
              have B16 : Below w.heap.size w W16 := by rw [← hW16]; exact B15.setCell (p := ⟨w11.heap.size, 0, none⟩) (by show w.heap.size ≤ w11.heap.size; have := HBi.out; omega) _
              have S16 : w10.heap.size ≤ W16.heap.size := by have h1 : W16.heap.size = w15.heap.size := by rw [← hW16]; simp
                                                             have h2 := b15.size; have h3 := HS14.out; omega
              rw [hW16] at OA
              have hn16 : nds (X' ++ [y]) = nds X ++ [⟨kd, md, 0, da, [], tt⟩] := by
                have h1 := HR.out
                unfold nds at h1 ⊢
                rw [List.map_append, h1, List.map_cons, List.map_nil, y5]
              obtain ⟨g2, hL2, hg2a, hg2b⟩ := OA.addr (by omega)
              subst hL2
              have hml := HML.out
              have hso : sortedP (ndAt (nds (X' ++ [y])) (m : Int)).names := by rw [hn16, ndAt_push _ _ m hml]; exact HSO.out
              have hsm : Okay (X' ++ [y]) := fun x hx => by
                rcases List.mem_append.1 hx with hx | hx
                · exact smallG HO14.out HFW.out HR.out HCK.out x hx
                · rw [List.mem_singleton.1 hx, y1, y5]
                  exact ⟨by omega, by show (0 : Int) ≤ 0; omega, by show (0 : Int) ≤ 1000000; omega⟩
              have XP := hide (rput_c w.heap.size w10.heap.size g2 (n + 1) c2 m n (X' ++ [y]) s W16 OA HBi.out S16 hsm (by omega) (by omega) hso)
              have hpg : w11.heap.size ≠ g2 := by
                have := own_blk_ne OA.own P16 (by decide)
                intro e
                exact this (by rw [e]; rfl)
              have HPG := hide hpg
              have HN16 := hide hn16
              have HP16 := hide P16
              have HY16 := hide Y16
              have HB16 := hide B16
              have k15 := one_ P15
              have k15f := P15.frozen 0
              have k15l := P15.lt
              have k16 := one_ P16
              have hwn : IntKind.i64.wrap (((n + 1 : Nat) : Int) - 1) = (n : Int) := by simp [IntKind.wrap, IntKind.bits, IntKind.signed]; omega
              have hwn2 : IntKind.i64.wrap ((n : Int) + 1 - 1) = (n : Int) := by simp [IntKind.wrap, IntKind.bits, IntKind.signed]; omega
              have hwn3 : IntKind.i64.wrap (n : Int) = (n : Int) := by simp [IntKind.wrap, IntKind.bits, IntKind.signed]; omega
              clear hown hg hat hbase hyw y1 y2 y3 y4 y5 OP b15 hne15 P15 Y15 B15 OA hs11 hyl P16 Y16 B16 S16 hn16 hml hso hsm hpg HRY HO14 HP14 HY14 HB14 HDV k13 k14 j0 j1 j2 j3 j4 j5 k1 f2 nl n0 n1 n2 n3 n4 n5 hg2a hg2b
              go_wp2_with (rw [hW16])
              refine XP.out.mono ?_
              rintro e w17 ⟨rfl, X2, hO2, hR2, hb17, hn17⟩
              have HY17 := hide (HY16.out.below hb17 HYl.out)
              have HB17 := hide (HB16.out.trans (hb17.mono HBi.out))
              have HP17 := hide (hn17 _ _ _ HPG.out HP16.out)
              have HO17 := hide hO2
              have HR17 := hide hR2
              clear hO2 hR2 hb17 hn17 XP k15 k15f k15l k16 hW16
              go_upto_region 21 with (fail)
              obtain ⟨wd, hwd⟩ : ∃ W, World.drew w17 = W := ⟨_, rfl⟩
              have hdr : Below w17.heap.size w17 wd := by rw [← hwd]; exact bl_drewN (n := 1) (Below.refl _ _)
              have hPd := HP17.out.below hdr HP17.out.lt
              have hYd := HY17.out.below hdr HY17.out.lt
              have hOd := HO17.out.below hdr
              have hBd := HB17.out.trans (hdr.mono HB17.out.size)
              have s0 := one_ hPd
              refine wp_region_K (fun V' : World => V'.cell? ⟨w11.heap.size, 0, none⟩ = some (.slice (some ⟨g2, 0, none⟩) (n + 1) c2)) [] rfl (by rw [hwd]; exact s0) (fun hHeld => ?_)
              rw [hwd] at hHeld ⊢
              have hO18 := hOd.far (p := ⟨w.heap.size + 2, 0, none⟩) (by show w.heap.size ≤ w.heap.size + 2; omega) (by show w.heap.size + 2 < w10.heap.size; exact HYl.out) (.slice (some ⟨g2, 0, none⟩) (n + 1) c2)
              have hB18 := hBd.setCell (p := ⟨w.heap.size + 2, 0, none⟩) (by show w.heap.size ≤ w.heap.size + 2; omega) (.slice (some ⟨g2, 0, none⟩) (n + 1) c2)
              have hP18 := hPd.far (p := ⟨w.heap.size + 2, 0, none⟩) (by show w11.heap.size ≠ w.heap.size + 2; have := HS11.out; have := HYl.out; omega) (.slice (some ⟨g2, 0, none⟩) (n + 1) c2)
              have s18 := one_ hP18
              have r18 := one_ (hYd.set_ 0 (.slice (some ⟨g2, 0, none⟩) (n + 1) c2))
              have f17 := hYd.frozen 0
              have f18 := one_ hYd
              have f19 := hYd.lt
              have HEND := hide (And.intro hO18.fs hB18)
              have HLS := hide (HR17.out.trans (by rw [HN16.out]) : nds X2 = insP (nds X ++ [⟨kd, md, 0, da, [], tt⟩]) (m : Int) s (n : Int))
              have hTe : T = (insP (nds X ++ [⟨kd, md, 0, da, [], tt⟩]) (m : Int) s (n : Int), (n : Int), 0) := by rw [← HT.out, cr_5 HH.out HCC.out HE.out HE2.out HLK.out (by rw [HLN.out]; omega), HLN.out]
              subst hTe
              clear HT hdr hPd hYd hOd hBd s0 hO18 hB18 hP18 hwd HY17 HB17 HP17 HO17
              refine wpAnyK_take (i := 0) (v := ?_) rfl rfl (by kernel_rfl) (fun _ _ _ h => h) (Or.inl ⟨by rfl, ?_⟩) (by assumption) ?_
              rotate_left
              · (intro V hV; (try dsimp only at hV); go_simp; with_reducible rfl)
              try simp only [Act.put, List.setIfInBounds_toArray, List.set_cons_zero, List.set_cons_succ]
              refine wpAnyK_take (i := 1) (v := ?_) rfl rfl (by kernel_rfl) (fun _ _ _ h => h) (Or.inl ⟨by rfl, ?_⟩) (by assumption) ?_
              rotate_left
              · (intro V hV; (try dsimp only at hV); go_simp; with_reducible rfl)
              try simp only [Act.put, List.setIfInBounds_toArray, List.set_cons_zero, List.set_cons_succ]
              refine wpAnyK_take (i := 2) (v := ?_) rfl rfl (by kernel_rfl) (fun _ _ _ h => h) (Or.inl ⟨by rfl, ?_⟩) (by assumption) ?_
              rotate_left
              · (intro V hV; (try dsimp only at hV); go_simp; with_reducible rfl)
              try simp only [Act.put, List.setIfInBounds_toArray, List.set_cons_zero, List.set_cons_succ]
              refine wpAnyK_take (i := 3) (v := ?_) rfl rfl (by kernel_rfl) (fun _ _ _ h => h) (Or.inl ⟨by rfl, ?_⟩) (by assumption) ?_
              rotate_left
              · (intro V hV; (try dsimp only at hV); go_simp; with_reducible rfl)
              try simp only [Act.put, List.setIfInBounds_toArray, List.set_cons_zero, List.set_cons_succ]
              refine wpAnyK_take (i := 4) (v := ?_) rfl rfl (by kernel_rfl) (fun _ _ _ h => h) (Or.inl ⟨by rfl, ?_⟩) (by assumption) ?_
              rotate_left
              · (intro V hV; (try dsimp only at hV); go_simp; with_reducible rfl)
              try simp only [Act.put, List.setIfInBounds_toArray, List.set_cons_zero, List.set_cons_succ]
              refine wpAnyK_step (i := 5) (by kernel_rfl) rfl rfl (fun K hK => ?_)
              go_simp
              refine hK.out _ _ (fun _ _ => by exact s18) ?_
              clear hK K hHeld
              simp only [List.setIfInBounds_toArray]
              refine wpAnyK_step (i := 6) (by kernel_rfl) rfl rfl (fun K hK => ?_)
              go_simp
              refine hK.out _ _ (fun h _ => h) ?_
              clear hK K
              simp only [List.setIfInBounds_toArray]
              refine wpAnyK_step (i := 7) (by kernel_rfl) rfl rfl (fun K hK => ?_)
              go_simp
              refine hK.out _ _ (fun h _ => h) ?_
              clear hK K
              refine wpAnyK_done (by kernel_rfl) ?_ _
              (try simp only [Exit.then])
              go_wp2_with fail
              refine bodyPost_ret (v := .tuple #[.agg #[.slice (some ⟨g2, 0, none⟩) (n + 1) c2], .int .i64 (n : Int), .int .i64 0]) (by simp only [results, Tryz.results10]; go_simp) rfl ?_
              first | exact ⟨_, _, _, _, rfl, HEND.out.1, HLS.out, HEND.out.2⟩ | exact ⟨_, _, _, rfl, _, HEND.out.1, HLS.out, HEND.out.2⟩
          · have hEb : (E != 0) = true := bne_iff_ne.2 h0
            have H0 := hide h0
            clear h0
            have hTe : T = (nds X, 0, E) := by rw [← HT.out]; exact cr_3 HH.out HCC.out HE.out HE2.out H0.out
            subst hTe
            have k5 := one_ HX9.out
            have k6 := HY9.out.frozen 0
            have k7 := one_ HY9.out
            have k8 := HY9.out.lt
            have HBE : Hid (Below w.heap.size w (w9.setCell ⟨w.heap.size + 2, 0, none⟩ (.slice L n c))) := hide (HB9.out.setCell (p := ⟨w.heap.size + 2, 0, none⟩) (by show w.heap.size ≤ w.heap.size + 2; omega) _)
            clear HT
            go_wp2_with fail
            refine bodyPost_ret (v := .tuple #[.agg #[.slice L n c], .int .i64 0, .int .i64 E]) (by simp only [results, Tryz.results10]; go_simp) rfl ?_
            first | exact ⟨L, n, c, X, rfl, HF.out _ HBE.out, rfl, HBE.out⟩ | exact ⟨L, n, c, rfl, X, HF.out _ HBE.out, rfl, HBE.out⟩
        · have hEb : (E != 0) = true := bne_iff_ne.2 h0
          have H0 := hide h0
          clear h0
          have hTe : T = (nds X, 0, E) := by rw [← HT.out]; exact cr_2 HH.out HCC.out HE.out H0.out
          subst hTe
          have k5 := one_ HX7.out
          have k6 := HY7.out.frozen 0
          have k7 := one_ HY7.out
          have k8 := HY7.out.lt
          have HBE : Hid (Below w.heap.size w (w7.setCell ⟨w.heap.size + 2, 0, none⟩ (.slice L n c))) := hide (HB7.out.setCell (p := ⟨w.heap.size + 2, 0, none⟩) (by show w.heap.size ≤ w.heap.size + 2; omega) _)
          clear HT
          go_wp2_with fail
          refine bodyPost_ret (v := .tuple #[.agg #[.slice L n c], .int .i64 0, .int .i64 E]) (by simp only [results, Tryz.results10]; go_simp) rfl ?_
          first | exact ⟨L, n, c, X, rfl, HF.out _ HBE.out, rfl, HBE.out⟩ | exact ⟨L, n, c, rfl, X, HF.out _ HBE.out, rfl, HBE.out⟩
    · have hgt : (0 : Int) < (mn : Int) := by omega
      have hne : nm ≠ [] := fun e => h0 (by rw [← HNL.out, e]; rfl)
      have HCC : Hid (creatableP ⟨kd, md, lk, da, nm, tt⟩ = false) := hide (by rw [HCR.out]; simp [hne])
      clear hne HCR h0
      have hTe : T = (nds X, 0, 2) := by rw [← HT.out]; exact cr_1 HCC.out
      subst hTe
      have k5 := one_ HX2.out
      have k6 := HY2.out.frozen 0
      have k7 := one_ HY2.out
      have k8 := HY2.out.lt
      have HBE : Hid (Below w.heap.size w (w2.setCell ⟨w.heap.size + 2, 0, none⟩ (.slice L n c))) := hide (HB2.out.setCell (p := ⟨w.heap.size + 2, 0, none⟩) (by show w.heap.size ≤ w.heap.size + 2; omega) _)
      clear HT
      go_wp2_with fail
      refine bodyPost_ret (v := .tuple #[.agg #[.slice L n c], .int .i64 0, .int .i64 2]) (by simp only [results, Tryz.results10]; go_simp) rfl ?_
      first | exact ⟨L, n, c, X, rfl, HF.out _ HBE.out, rfl, HBE.out⟩ | exact ⟨L, n, c, rfl, X, HF.out _ HBE.out, rfl, HBE.out⟩
end Go.Proofs.YtlcoapignfmgcaaGreatDoor
