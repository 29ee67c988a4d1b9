/- The document's copied. -/
import Derived.Test.YtlcoapignfmgcaaGreatDoorNrA
namespace Go.Proofs.YtlcoapignfmgcaaGreatDoor
open Go.RowKit
set_option linter.unusedVariables false
theorem own_base {w : World} {base : Nat} {t : TypeId} {size n c : Nat} {A : Option Addr} {xs : List Value} (h : w.ownsRow base t size (.slice A n c) n xs) : ∀ a, A = some a → base ≤ a.block ∧ a.block < w.heap.size := fun a e => by
  rcases h.2 with ⟨hv, h0⟩ | ⟨g', cap, cur, hv, hb, hh, _⟩
  · injection hv with e1 _ _
    rw [e1] at e; cases e
  · injection hv with e1 _ _
    rw [e1] at e; injection e with e; subst e
    refine ⟨hb, ?_⟩
    rcases Nat.lt_or_ge g' w.heap.size with q | q
    · exact q
    · rw [Array.getElem?_eq_none q] at hh; cases hh
/-- What the copying keeps. -/
structure CP (B0 : Nat) (w V : World) (L L' : Option Addr) (n c i c' : Nat) (X X' : List DV) : Prop where
  fb : Blk V w.heap.size 24 #[.slice L n c]
  rb : Blk V (w.heap.size + 1) 24 #[.slice none 0 0]
  xb : Blk V (w.heap.size + 2) 24 #[.slice L' i c']
  og : OG B0 (w.heap.size + 3) V L' i c' X'
  nd : nds X' = (nds X).take i
  bl : Below w.heap.size w V
  sz : w.heap.size + 3 ≤ V.heap.size
set_option maxRecDepth 100000 in
set_option maxHeartbeats 16000000 in
theorem rcopied_c (L : Option Addr) (n c : Nat) (X : List DV) (B0 : Nat) (w : World) (hF : FsR w w.heap.size L n X) (hB : FewB X) (h0 : B0 ≤ w.heap.size) (hD : ∀ x ∈ X, Hi x.D x.dn B0) :
    Calls Tryz.prog 40 #[.agg #[.slice L n c]] w fun e w' => ∃ L' c' X', e = .returned (.agg #[.slice L' n c']) ∧ OG B0 w.heap.size w' L' n c' X' ∧ nds X' = nds X ∧ Below w.heap.size w w' := by
  have hl := hF.len
  obtain ⟨W1, hW1⟩ : ∃ W, ((w.alloc (.cells #[.slice L n c] 24)).alloc (.cells #[.slice none 0 0] 24)).alloc (.cells #[.slice none 0 0] 24) = W := ⟨_, rfl⟩
  have HC1 : Hid (CP B0 w W1 L none n c 0 0 X []) := hide (by
    rw [← hW1]
    refine ⟨((Blk.new w _ _).alloc _).alloc _, ?_, ?_, OG.none_ _ _ _, by simp [nds], ((on_alloc w _).trans ((on_alloc _ _).mono (by simp))).trans ((on_alloc _ _).mono (by simp; omega)), by simp⟩
    · have := (Blk.new (w.alloc (.cells #[.slice L n c] 24)) 24 #[.slice none 0 0]).alloc (.cells #[.slice none 0 0] 24)
      simpa only [World.size_alloc] using this
    · have := Blk.new ((w.alloc (.cells #[.slice L n c] 24)).alloc (.cells #[.slice none 0 0] 24)) 24 #[.slice none 0 0]
      simpa only [World.size_alloc] using this)
  have HF := hide (fun (W : World) (hW : Below w.heap.size w W) => (hF.below hW).more hW.size)
  have HW := hide (fun (x : DV) (hx : x ∈ X) => And.intro (hD x hx) (hB.each x hx).n)
  have HN := hide hB.n
  have HL := hide hl
  have k0 := one_ HC1.out.fb
  clear hF hB hl hD
  go_enter Tryz.func40, Tryz.ntmps40
  go_wp2_with (rw [hW1])
  clear hW1 k0
  go_loopw [4] (fun u4 wx => ∃ (i : Nat) (L' : Option Addr) (c' : Nat) (X' : List DV), i ≤ n ∧ u4 = .int .i64 (i : Int) ∧ Hid (CP B0 w wx L L' n c i c' X X')) (fun i _ => n - (intOf i).toNat)
  case atStart => exact ⟨0, none, 0, [], Nat.zero_le _, rfl, HC1⟩
  case round =>
    clear HC1
    obtain ⟨i, L', c', X', hi, rfl, HC⟩ := hrel
    have k0 := one_ HC.out.fb
    have k1 := one_ HC.out.xb
    by_cases hin : i < n
    · have hlt : (i : Int) < (n : Int) := by omega
      obtain ⟨g0, o0, x, rfl, hg0, hx, hok, hc⟩ := (HF.out wr HC.out.bl).at_ hin
      obtain ⟨d0, d1, d2, d3, d4, d5⟩ := hc
      have i1 := fun W => nd_at g0 o0 n c i (i : Int) rfl hin W
      have hw := HW.out x (List.mem_of_getElem? hx)
      have hnl := hok.nl
      have hmn : x.mn ≤ 200 := by omega
      have hn100 : n ≤ 100 := by have := HN.out; have := HL.out; omega
      obtain ⟨V1, hV1⟩ : ∃ W, wr.alloc (.cells #[.int .i64 x.r.kind, .int .i64 x.r.mode, .int .i64 x.r.links, .slice x.D x.dn x.dc, .slice x.M x.mn x.mc, .string ⟨x.r.to.toArray⟩] 28) = W := ⟨_, rfl⟩
      have b1 : Below wr.heap.size wr V1 := by rw [← hV1]; exact on_alloc _ _
      have hN1 : Blk V1 wr.heap.size 28 #[.int .i64 x.r.kind, .int .i64 x.r.mode, .int .i64 x.r.links, .slice x.D x.dn x.dc, .slice x.M x.mn x.mc, .string ⟨x.r.to.toArray⟩] := by rw [← hV1]; exact Blk.new wr _ _
      obtain ⟨V2, hV2⟩ : ∃ W, V1.alloc (.cells #[] 59) = W := ⟨_, rfl⟩
      have b2 : Below V1.heap.size V1 V2 := by rw [← hV2]; exact on_alloc _ _
      have hE2 : Blk V2 V1.heap.size 59 #[] := by rw [← hV2]; exact Blk.new V1 _ _
      have hown2 : V2.ownsRow V1.heap.size 59 2 (.slice (some ⟨V1.heap.size, 0, none⟩) 0 0) 0 [] := ⟨rfl, .inr ⟨V1.heap.size, 0, #[], rfl, Nat.le_refl _, hE2, Nat.le_refl _, by unfold maxLen; omega, rfl, rfl⟩⟩
      have b12 : Below wr.heap.size wr V2 := b1.trans (b2.mono b1.size)
      have hM2 : Reads V2 V2.heap.size 2 x.M x.mn (ncs x.r.names) := (hok.n.below b12).more b12.size
      have HOWN2 := hide hown2
      have HM2 := hide hM2
      have HB12 := hide b12
      have HB1 := hide b1
      have HB2 := hide b2
      have HS2 := hide b2.size
      have HN1 := hide hN1
      have HX := hide hx
      have HOK := hide hok
      have HWI := hide hw.1
      have hS1 := b1.size
      have HS1 := hide (show wr.heap.size < V1.heap.size from hN1.lt)
      have a4 := (HN1.out.below b2 hN1.lt).cell 4
      obtain ⟨i0, hi0, hz0, hz1, hz2⟩ := info_parts infoName
      have HI0 := hide (And.intro hi0 (And.intro hz0 (And.intro hz1 hz2)))
      clear b1 b2 hE2 hown2 b12 hM2 hN1 hx hok hw hS1
      go_wp2_with (first | rw [hV1] | rw [hV2] | (at_builtin; (refine wpList_append_any _ rfl (.tmp 18) (.tmp 20) 26 rfl V1.heap.size 59 i0 _ 2 24 Tryz.underlying26 hi0 hz0 hz1 hz2 rfl (by omega) (.slice (some ⟨V1.heap.size, 0, none⟩) 0 0) 0 [] rfl HOWN2.out V2.heap.size x.M x.mn x.mc (ncs x.r.names) rfl HM2.out ?h1 ?c1 ?c2 ?c3 ?_)))
      case h1 => exact ncs_one _
      case c1 => unfold maxLen; omega
      case c2 => omega
      case c3 => exact HS2.out
      intro v1 V3 hown hg hat
      obtain ⟨M3, mc3, rfl⟩ := own_slice hown
      have b3 : Below V1.heap.size V1 V3 := HB2.out.grown hg HS2.out (fun z hz => Nat.le_of_eq (by simpa [Value.ownBlock] using hz))
      have hN3 := HN1.out.below b3 HN1.out.lt
      obtain ⟨V4, hV4⟩ : ∃ W, V3.setCell ⟨wr.heap.size, 4, none⟩ (.slice M3 x.mn mc3) = W := ⟨_, rfl⟩
      have hN4 : Blk V4 wr.heap.size 28 #[.int .i64 x.r.kind, .int .i64 x.r.mode, .int .i64 x.r.links, .slice x.D x.dn x.dc, .slice M3 x.mn mc3, .string ⟨x.r.to.toArray⟩] := by rw [← hV4]; exact hN3.set_ 4 _
      have b13 : Below wr.heap.size wr V3 := HB1.out.trans (b3.mono HB1.out.size)
      have b4 : Below wr.heap.size wr V4 := by rw [← hV4]; exact b13.setCell (p := ⟨wr.heap.size, 4, none⟩) (Nat.le_refl _) _
      have own4 : V4.ownsRow V1.heap.size 59 2 (.slice M3 x.mn mc3) x.mn (ncs x.r.names) := by rw [← hV4]; exact own_far hown (p := ⟨wr.heap.size, 4, none⟩) HS1.out _
      obtain ⟨V5, hV5⟩ : ∃ W, V4.alloc (.cells #[.int .i64 x.r.kind, .int .i64 x.r.mode, .int .i64 x.r.links, .slice x.D x.dn x.dc, .slice M3 x.mn mc3, .string ⟨x.r.to.toArray⟩] 28) = W := ⟨_, rfl⟩
      have b45 : Below V4.heap.size V4 V5 := by rw [← hV5]; exact on_alloc _ _
      have b5 : Below wr.heap.size wr V5 := b4.trans (b45.mono b4.size)
      have hR5 : Blk V5 V4.heap.size 28 #[.int .i64 x.r.kind, .int .i64 x.r.mode, .int .i64 x.r.links, .slice x.D x.dn x.dc, .slice M3 x.mn mc3, .string ⟨x.r.to.toArray⟩] := by rw [← hV5]; exact Blk.new V4 _ _
      have own5 := own_below own4 b45
      have HRY : Hid (Reads V5 V5.heap.size 6 (some ⟨V4.heap.size, 0, none⟩) 1 [.int .i64 x.r.kind, .int .i64 x.r.mode, .int .i64 x.r.links, .slice x.D x.dn x.dc, .slice M3 x.mn mc3, .string ⟨x.r.to.toArray⟩]) := hide ⟨rfl, fun _ => ⟨_, rfl, hR5.lt, fun j u hj => by
        rw [Addr.add_lit, Nat.zero_add]
        exact (hR5.cell j).trans (by rw [List.getElem?_toArray]; exact hj)⟩⟩
      have HOG := hide (HC.out.og.below b5)
      have HDV : Hid (DVok V5 V5.heap.size ⟨x.r, x.D, x.dn, x.dc, M3, x.mn, mc3⟩) := hide ⟨(HOK.out.d.below b5).more b5.size, Reads.of_own own5⟩
      have HLO : Hid (Lo M3 x.mn V1.heap.size) := hide (lo_own own5)
      have HCAP := hide (own_cap own5)
      have hX5 := HC.out.xb.below b5 HC.out.xb.lt
      obtain ⟨a0, a1, a2, a3, a4', a5⟩ := six hN3
      have f4 := hN3.frozen 4
      have nl := hN3.lt
      obtain ⟨c0, c1, c2, c3, c4, c5⟩ := six hN4
      have x5 := one_ hX5
      have x4 := one_ (HC.out.xb.below b4 HC.out.xb.lt)
      have HB5 := hide b5
      have HS5 := hide b5.size
      obtain ⟨i2, hi2, hy0, hy1, hy2⟩ := info_parts infoNodeC
      clear hown hg hat b3 hN3 hN4 b13 b4 own4 b45 b5 hR5 own5 hX5 k0 d0 d1 d2 d3 d4 d5 i1 a4
      go_wp2_with (first | rw [hV4] | rw [hV5] | (at_builtin; (refine wpList_append_any _ rfl (.tmp 24) (.tmp 26) 22 rfl (w.heap.size + 3) 28 i2 _ 6 88 Tryz.underlying22 hi2 hy0 hy1 hy2 rfl (by omega) (.slice L' i c') i (dcs X') rfl HOG.out.own V5.heap.size (some ⟨V4.heap.size, 0, none⟩) 1 1 [.int .i64 x.r.kind, .int .i64 x.r.mode, .int .i64 x.r.links, .slice x.D x.dn x.dc, .slice M3 x.mn mc3, .string ⟨x.r.to.toArray⟩] rfl HRY.out ?h1 ?c1 ?c2 ?c3 ?_)))
      case h1 =>
        intro u hu
        simp only [List.mem_cons, List.not_mem_nil, or_false] at hu
        rcases hu with rfl | rfl | rfl | rfl | rfl | rfl <;> rfl
      case c1 => unfold maxLen; omega
      case c2 => omega
      case c3 => have := HS5.out; have := HC.out.sz; omega
      intro v2 V6 hown hg hat
      obtain ⟨L6, c6, rfl⟩ := own_slice hown
      have hbase : ∀ a, L' = some a → w.heap.size + 3 ≤ a.block ∧ a.block < wr.heap.size := fun a e => own_base HC.out.og.own a e
      have OP := HOG.out.push (by omega) HDV.out (fun a ha => HLO.out.off (by have := (hbase a ha).2; have := HS1.out; omega)) (HLO.out.less (by have := HC.out.sz; have := HS1.out; omega)) HWI.out HCAP.out hown hg hat (fun a ha => (hbase a ha).1)
      have b56 : Below (w.heap.size + 3) V5 V6 := (Below.refl _ _).grown hg (by have := HS5.out; have := HC.out.sz; omega) (fun z hz => by
        cases L' with
        | none => simp [Value.ownBlock] at hz
        | some a =>
          have : a.block = z := by simpa [Value.ownBlock] using hz
          have := (hbase a rfl).1
          omega)
      have b6 : Below (w.heap.size + 3) wr V6 := (HB5.out.mono HC.out.sz).trans b56
      have OA := OP.far (p := ⟨w.heap.size + 2, 0, none⟩) (by show B0 ≤ w.heap.size + 2; omega) (by show w.heap.size + 2 < w.heap.size + 3; omega) (.slice L6 (i + 1) c6)
      obtain ⟨V7, hV7⟩ : ∃ W, V6.setCell ⟨w.heap.size + 2, 0, none⟩ (.slice L6 (i + 1) c6) = W := ⟨_, rfl⟩
      have hx6 := HC.out.xb.below b6 (by omega)
      have hs7 : V7.heap.size = V6.heap.size := by rw [← hV7]; simp
      rw [hV7] at OA
      have HC7 : Hid (CP B0 w V7 (some ⟨g0, o0, none⟩) L6 n c (i + 1) c6 X (X' ++ [⟨x.r, x.D, x.dn, x.dc, M3, x.mn, mc3⟩])) := hide (by
        refine ⟨?_, ?_, ?_, OA, ?_, ?_, ?_⟩
        · rw [← hV7]; exact (HC.out.fb.below b6 (by omega)).far (p := ⟨w.heap.size + 2, 0, none⟩) (by show w.heap.size ≠ w.heap.size + 2; omega) _
        · rw [← hV7]; exact (HC.out.rb.below b6 (by omega)).far (p := ⟨w.heap.size + 2, 0, none⟩) (by show w.heap.size + 1 ≠ w.heap.size + 2; omega) _
        · rw [← hV7]; exact hx6.set_ 0 _
        · have h1 := HC.out.nd
          unfold nds at h1 ⊢
          rw [List.map_append, h1, List.map_cons, List.map_nil, List.take_add_one, List.getElem?_map, HX.out]
          rfl
        · rw [← hV7]; exact ((HC.out.bl.trans ((HB5.out.mono HC.out.bl.size))).trans (b56.mono (by omega))).setCell (p := ⟨w.heap.size + 2, 0, none⟩) (by show w.heap.size ≤ w.heap.size + 2; omega) _
        · rw [hs7]; have := b6.size; have := HC.out.sz; omega)
      have x6 := one_ hx6
      have x6f := hx6.frozen 0
      have x6l := hx6.lt
      clear hown hg hat hbase OP b56 b6 OA hx6 hs7 x5 x4 a0 a1 a2 a3 a4' a5 f4 nl c0 c1 c2 c3 c4 c5 k1
      go_wp2_with (rw [hV7])
      go_roundw
      case rel => exact ⟨i + 1, L6, c6, _, by omega, by go_num, HC7⟩
      case measure => simp [intOf]; omega
    · have hlt : ¬ ((i : Int) < (n : Int)) := by omega
      have hie : i = n := by omega
      subst hie
      have hfr := HC.out.rb.frozen 0
      have hrc := one_ HC.out.rb
      have hrl := HC.out.rb.lt
      have HEND : Hid (OG B0 w.heap.size (wr.setCell ⟨w.heap.size + 1, 0, none⟩ (.slice L' i c')) L' i c' X' ∧ nds X' = nds X ∧ Below w.heap.size w (wr.setCell ⟨w.heap.size + 1, 0, none⟩ (.slice L' i c'))) := hide ⟨(HC.out.og.far (p := ⟨w.heap.size + 1, 0, none⟩) (by show B0 ≤ w.heap.size + 1; omega) (by show w.heap.size + 1 < w.heap.size + 3; omega) _).less (by omega), by
        have h1 := HC.out.nd
        rw [List.take_of_length_le (by rw [nds_length, HL.out]; omega)] at h1
        exact h1, HC.out.bl.setCell (p := ⟨w.heap.size + 1, 0, none⟩) (by show w.heap.size ≤ w.heap.size + 1; omega) _⟩
      obtain ⟨V7, hV7⟩ : ∃ W, wr.setCell ⟨w.heap.size + 1, 0, none⟩ (.slice L' i c') = W := ⟨_, rfl⟩
      rw [hV7] at HEND
      have hr7 : V7.cell? ⟨w.heap.size + 1, 0, none⟩ = some (.slice L' i c') := by rw [← hV7]; exact one_ (HC.out.rb.set_ 0 _)
      go_wp2_with (rw [hV7])
      refine bodyPost_ret (v := .agg #[.slice L' i c']) (by simp only [results, Tryz.results40]; go_simp) rfl ?_
      first | exact ⟨L', c', X', rfl, HEND.out⟩ | exact ⟨L', c', rfl, X', HEND.out⟩
end Go.Proofs.YtlcoapignfmgcaaGreatDoor
