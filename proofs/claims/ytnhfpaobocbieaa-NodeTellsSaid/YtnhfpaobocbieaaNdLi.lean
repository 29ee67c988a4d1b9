/- node.List. -/
import Derived.Test.YtnhfpaobocbieaaNdNw
namespace Go.Proofs.Ytnhfpaobocbieaa
open Go.RowKit
set_option linter.unusedVariables false
def listP (l : List ND) (d : Int) : List (List UInt8) := if dirP l d 4 = 0 then (ndAt l d).names.map NM.name else []
def ListEnd (l : List ND) (d : Int) (w : World) (e : Ending) (w' : World) : Prop := ∃ A m c, e = .returned (.tuple #[.slice A m c, .int .i64 (dirP l d 4)]) ∧ Ow w.heap.size w' A m c (listP l d) ∧ Below w.heap.size w w'
theorem dirP_in {l : List ND} {d b : Int} (h : dirP l d b = 0) : 0 ≤ d ∧ d < (l.length : Int) := by
  unfold dirP at h
  by_cases h1 : checkB l = false ∨ d < 0 ∨ (l.length : Int) ≤ d
  · rw [if_pos h1] at h; cases h
  · omega
set_option maxRecDepth 100000 in
set_option maxHeartbeats 8000000 in
theorem list_any (L : Option Addr) (n c : Nat) (l : List DV) (d : Int) (w : World) (hF : FsR w w.heap.size L n l) (hB : FewB l) :
    Calls Try.prog 10 #[.agg #[.slice L n c], .int .i64 d] w (ListEnd (nds l) d w) := by
  have hl := hF.len
  have hln : (nds l).length = n := by rw [nds_length, hl]
  have HX : Hid (Blk (w.alloc (.cells #[.slice L n c] 24)) w.heap.size 24 #[.slice L n c]) := hide (Blk.new w _ _)
  have HB : Hid (Below w.heap.size w (w.alloc (.cells #[.slice L n c] 24))) := hide (on_alloc _ _)
  have XD := hide (dir_any L n c l d 4 (w.alloc (.cells #[.slice L n c] 24)) ((hF.below HB.out).more HB.out.size) hB (.inr rfl))
  have HF := hide hF
  have HLN := hide hln
  have HFEW := hide hB.each
  obtain ⟨E, hE⟩ : ∃ E, dirP (nds l) d 4 = E := ⟨_, rfl⟩
  have HE := hide hE
  rw [hE] at XD
  have HLP : Hid (listP (nds l) d = if E = 0 then (ndAt (nds l) d).names.map NM.name else []) := hide (by unfold listP; rw [hE])
  have HEND : Hid (∀ (A : Option Addr) (m c : Nat) (w' : World), Ow w.heap.size w' A m c (listP (nds l) d) → Below w.heap.size w w' → ListEnd (nds l) d w (.returned (.tuple #[.slice A m c, .int .i64 E])) w') := hide (fun A m c w' h1 h2 => ⟨A, m, c, by rw [hE], h1, h2⟩)
  obtain ⟨i0, hi, hz0, hz1, hz2⟩ := info_parts infoStr
  clear hF hB hl hln hE
  have k0 := one_ HX.out
  go_enter Try.func10, Try.ntmps10
  go_wp2_with fail
  refine XD.out.mono ?_
  rintro e w3 ⟨rfl, hb3⟩
  have HX3 := hide (HX.out.below hb3 HX.out.lt)
  have HB3 := hide (HB.out.trans (hb3.mono HB.out.size))
  clear hb3 XD k0 HX HB
  have k0 := one_ HX3.out
  by_cases he : E = 0
  · subst he
    obtain ⟨hd0, hd1⟩ := dirP_in HE.out
    obtain ⟨m, hm⟩ : ∃ m : Nat, d = (m : Int) := ⟨d.toNat, by omega⟩
    subst hm
    have hmn : m < n := by have := HLN.out; omega
    obtain ⟨g, o, x, rfl, hg, hx, hok, hc⟩ := HF.out.at_ hmn
    obtain ⟨d0, d1, d2, d3, d4, d5⟩ := NdCells.below hc hg HB3.out
    have i1 := fun W => nd_at g o n c m (m : Int) rfl hmn W
    have hmx : x.mn ≤ 100 := by have := (HFEW.out x (List.mem_of_getElem? hx)).n; have := hok.nl; omega
    have HLQ : Hid (listP (nds l) (m : Int) = x.r.names.map NM.name) := hide (by rw [HLP.out, if_pos rfl, nds_at hx])
    have HNL := hide hok.nl
    have HOKN := hide (fun W (hW : Below w.heap.size w W) => hok.n.below hW)
    clear hx hok hc
    go_wp2_with fail
    clear d0 d1 d2 d3 d4 d5 k0
    go_loopw [7, 23] (fun u7 u23 wx => ∃ (i : Nat) (A : Option Addr) (cc : Nat), i ≤ x.mn ∧ u7 = .slice A i cc ∧ u23 = .int .i64 (i : Int) ∧ Hid (Ow w.heap.size wx A i cc ((x.r.names.map NM.name).take i)) ∧ Hid (Below w.heap.size w wx)) (fun _ i _ => x.mn - (intOf i).toNat)
    case atStart => exact ⟨0, none, 0, Nat.zero_le _, rfl, rfl, hide (Ow.none_ _ _), HB3⟩
    case round =>
      obtain ⟨i, A, cc, hi2, rfl, rfl, HO, HB⟩ := hrel
      by_cases hin : i < x.mn
      · have hlt : (i : Int) < (x.mn : Int) := by omega
        obtain ⟨g', o', y, hM, hg', hy, n0, n1⟩ := nm_cells (HOKN.out _ HB.out) hin
        have i2 := fun W => nm_at g' o' x.mn x.mc i (i : Int) rfl hin W
        have HTK : Hid ((x.r.names.map NM.name).take (i + 1) = (x.r.names.map NM.name).take i ++ [y.name]) := hide (by
          have h : (x.r.names.map NM.name)[i]? = some y.name := by rw [List.getElem?_map, hy]; rfl
          obtain ⟨h1, h2⟩ := List.getElem?_eq_some_iff.1 h
          rw [List.take_succ_eq_append_getElem h1, h2])
        obtain ⟨wy, hwy⟩ : ∃ W, wr.alloc (.cells #[Value.string ⟨y.name.toArray⟩, .int .i64 y.node] 54) = W := ⟨_, rfl⟩
        have bY : Below wr.heap.size wr wy := by rw [← hwy]; exact on_alloc _ _
        have kY : Blk wy wr.heap.size 54 #[Value.string ⟨y.name.toArray⟩, .int .i64 y.node] := by rw [← hwy]; exact Blk.new wr _ _
        have HOY := hide (HO.out.below bY)
        have HBY := hide (HB.out.trans (bY.mono HB.out.size))
        have y0 := kY.cell 0
        have y9 := kY.lt
        simp only [List.getElem?_toArray, List.getElem?_cons_zero] at y0
        have hr1 := one_str wy y.name
        have hO1 := HOY.out.alloc (.cells #[.string ⟨y.name.toArray⟩] 9)
        have hsz := HBY.out.size
        rw [hM]
        clear hy bY kY hM
        go_wp2_with (at_builtin; (refine wpList_append_any _ rfl (.tmp 27) (.tmp 30) 32 rfl w.heap.size 9 i0 _ 1 16 Try.underlying32 hi hz0 hz1 hz2 rfl (by omega) (.slice A i cc) i (svs ((x.r.names.map NM.name).take i)) rfl hO1 (wy.heap.size + 1) (some ⟨wy.heap.size, 0, none⟩) 1 1 (svs [y.name]) rfl hr1 (svs_one _) ?c1 ?c2 ?c3 ?_))
        case c1 => unfold maxLen; omega
        case c2 => omega
        case c3 => simp; omega
        intro v1 w6 hown1 hg1 hat1
        obtain ⟨A2, c2, rfl, O2, W2⟩ := ow_next' HOY.out hown1 hg1 HBY.out (Nat.le_refl _)
        have HO6 : Hid (Ow w.heap.size w6 A2 (i + 1) c2 ((x.r.names.map NM.name).take (i + 1))) := hide (by rw [HTK.out]; exact O2)
        have HB6 := hide W2
        clear hown1 hg1 hat1 O2 W2 hr1 hO1 n0 n1 y0 y9
        go_wp2_with fail
        go_roundw
        case rel => exact ⟨i + 1, A2, c2, by omega, rfl, by go_num, HO6, HB6⟩
        case measure => simp [intOf]; omega
      · have hlt : ¬ ((i : Int) < (x.mn : Int)) := by omega
        obtain rfl : i = x.mn := by omega
        have HO2 : Hid (Ow w.heap.size wr A x.mn cc (listP (nds l) (m : Int))) := hide (by
          rw [HLQ.out]
          have h := HO.out
          rw [List.take_of_length_le (by rw [List.length_map]; have := HNL.out; omega)] at h
          exact h)
        go_wp2_with fail
        refine bodyPost_ret (v := .tuple #[.slice A x.mn cc, .int .i64 0]) (by simp only [results, Try.results10]; go_simp) rfl (HEND.out _ _ _ _ HO2.out HB.out)
  · have heb : (E != 0) = true := bne_iff_ne.2 he
    have HO2 : Hid (Ow w.heap.size w3 none 0 0 (listP (nds l) d)) := hide (by rw [HLP.out, if_neg he]; exact Ow.none_ _ _)
    clear he
    go_wp2_with fail
    refine bodyPost_ret (v := .tuple #[.slice none 0 0, .int .i64 E]) (by simp only [results, Try.results10]; go_simp) rfl (HEND.out _ _ _ _ HO2.out HB3.out)
end Go.Proofs.Ytnhfpaobocbieaa
