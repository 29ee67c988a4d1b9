/- node.checkLinks: the map of counts. node.checkLinks. node.Check. -/
import Derived.Test.YtlcoapignfmgcaaGreatDoorGd
import Derived.Maps.OwnSet
namespace Go.Proofs.YtlcoapignfmgcaaGreatDoor
open Go.RowKit
open Go.Maps
set_option linter.unusedVariables false
theorem keyI : Keyed Tryz.prog 3 := int_keyed Tryz.underlying3
/-- A map that counts the names by their nodes. -/
def CM (w : World) (b N : Nat) (ns : List NM) : Prop := ∃ D : DataW Unit, w.ownsMap Tryz.prog 3 (plainElem Tryz.prog 3) b N D ∧ ∀ k : Int, (Lit.int .i64 k).wf = true → D.atKey (.int .i64 k) (.lit (.int .i64 0)) = .lit (.int .i64 ((ns.countP fun x => x.node == k : Nat) : Int))
theorem wf_small {k : Int} (h0 : 0 ≤ k) (h1 : k ≤ 1000000) : (Lit.int .i64 k).wf = true := by
  have e1 : IntKind.i64.min = -9223372036854775808 := rfl
  have e2 : IntKind.i64.max = 9223372036854775807 := rfl
  simp only [Lit.wf, e1, e2, Bool.and_eq_true, decide_eq_true_eq]
  omega
theorem CM.made (w : World) : CM (w.alloc (.map #[] 0)) w.heap.size 0 [] := ⟨.map [], World.ownsMap_made _ _ _ _, fun k _ => rfl⟩
theorem CM.kept {w w' : World} {b N : Nat} {ns : List NM} (h : CM w b N ns) (hb : w'.heap[b]? = w.heap[b]?) : CM w' b N ns := by
  obtain ⟨D, ⟨es, clock, h1, h2⟩, h3⟩ := h
  exact ⟨D, ⟨es, clock, hb.trans h1, h2⟩, h3⟩
theorem CM.lt {w : World} {b N : Nat} {ns : List NM} (h : CM w b N ns) : b < w.heap.size := by
  obtain ⟨D, h1, _⟩ := h
  exact h1.lt
set_option maxRecDepth 100000 in
theorem CM.look {w : World} {b N : Nat} {ns : List NM} (h : CM w b N ns) {k : Int} (hk : (Lit.int .i64 k).wf = true) : (Instr.lookup 116 (.map (some b)) (.int .i64 k) false).run Tryz.prog w = .ok (.int .i64 ((ns.countP fun x => x.node == k : Nat) : Int)) w := by
  obtain ⟨D, h1, h2⟩ := h
  obtain ⟨c, e1, e2, _⟩ := h1.lookup_int keyI Tryz.underlying116 Tryz.underlying3 (Tryz.zeroValue3 w) (keyOf_int_mk Tryz.underlying3 hk)
  rw [h2 k hk] at e2
  rw [e1, ← (Lit.int.inj (DataW.lit.inj e2)).2]
set_option maxRecDepth 100000 in
theorem CM.upd {w : World} {b N : Nat} {ns : List NM} (h : CM w b N ns) (hN : N < maxLen) {y : NM} (hk : (Lit.int .i64 y.node).wf = true) (hl : ns.length ≤ 100000) :
    ∃ w', (Instr.mapUpdate 116 (.map (some b)) (.int .i64 y.node) (.int .i64 ((ns.countP fun x => x.node == y.node : Nat) + 1 : Int))).run Tryz.prog w = .ok () w' ∧ CM w' b (N + 1) (ns ++ [y]) ∧ w.grownBy w' (some b) := by
  obtain ⟨D, h1, h2⟩ := h
  have hc := List.countP_le_length (p := fun x : NM => x.node == y.node) (l := ns)
  obtain ⟨w', e1, e2, e3⟩ := h1.update keyI Tryz.underlying116 hN (keyOf_int_mk Tryz.underlying3 hk) (plainElem_int Tryz.underlying3 (a := ((ns.countP fun x => x.node == y.node : Nat) + 1 : Int)) (wf_small (by omega) (by omega)))
  refine ⟨w', e1, ⟨_, e2, fun k hkk => ?_⟩, e3⟩
  rw [List.countP_append, List.countP_cons, List.countP_nil]
  by_cases hx : y.node = k
  · subst hx
    rw [atKey_put_same h1.isMap (show WideAt.IsKeyLit (.int .i64 y.node) from trivial), if_pos (by simp)]
    simp
  · rw [atKey_put_other (fun e => hx (Lit.int.inj e).2.symm), h2 k hkk, if_neg (by simpa using hx)]
    simp
end Go.Proofs.YtlcoapignfmgcaaGreatDoor
namespace Go.Proofs.YtlcoapignfmgcaaGreatDoor
open Go.RowKit
open Go.Maps
set_option linter.unusedVariables false
def pre (l : List DV) (i : Nat) : List NM := allNames ((nds l).take i)
theorem pre_succ {l : List DV} {i : Nat} {x : DV} (h : l[i]? = some x) : pre l (i + 1) = pre l i ++ x.r.names := by
  have h2 : (nds l)[i]? = some x.r := by unfold nds; rw [List.getElem?_map, h]; rfl
  obtain ⟨hi, he⟩ := List.getElem?_eq_some_iff.1 h2
  unfold pre allNames
  rw [List.take_succ_eq_append_getElem hi, List.flatMap_append, he]
  simp
theorem links_no {l : List ND} {i : Nat} (hi : i < l.length) (h : linkB l i = false) : linksB l = false := by
  unfold linksB
  rw [Bool.eq_false_iff]
  intro h2
  have := List.all_eq_true.1 h2 i (List.mem_range.2 hi)
  rw [h] at this; cases this
theorem links_yes {l : List ND} (h : ∀ j, j < l.length → linkB l j = true) : linksB l = true := by
  unfold linksB
  exact List.all_eq_true.2 fun j hj => h j (List.mem_range.1 hj)
set_option maxRecDepth 100000 in
set_option maxHeartbeats 130000000 in
theorem links_any (L : Option Addr) (n c : Nat) (l : List DV) (w : World) (hF : FsR w w.heap.size L n l) (hfew : ∀ x ∈ l, FewN x) (hr : RefsOk (nds l)) (h60 : n ≤ 100) :
    Calls Tryz.prog 68 #[.agg #[.slice L n c]] w fun e w' => e = .returned (.bool (linksB (nds l))) ∧ Below w.heap.size w w' := by
  have hl := hF.len
  have hln : (nds l).length = n := by rw [nds_length, hl]
  have hmm := @run_makeMap Tryz.prog
  obtain ⟨W0, hW0⟩ : ∃ W, (w.alloc (.cells #[.slice L n c] 24)).alloc (.map #[] 0) = W := ⟨_, rfl⟩
  have s0 : (w.alloc (.cells #[.slice L n c] 24)).heap.size = w.heap.size + 1 := by simp
  have HB : Hid (Below w.heap.size w W0) := hide (by rw [← hW0]; exact (on_alloc w _).trans ((on_alloc _ _).mono (by omega)))
  have HX : Hid (Blk W0 w.heap.size 24 #[.slice L n c]) := hide (by rw [← hW0]; exact (Blk.new w _ _).alloc _)
  have HC : Hid (CM W0 (w.heap.size + 1) (pre l 0).length (pre l 0)) := hide (by rw [← hW0, ← s0]; exact CM.made _)
  have HF := hide hF
  have HL := hide hl
  have HLN := hide hln
  have HFEW := hide hfew
  have HREF : Hid (∀ x ∈ l, ∀ y ∈ x.r.names, 0 ≤ y.node ∧ y.node < (n : Int)) := hide (fun x hx y hy => by
    have h1 := hr x.r (by unfold nds; exact List.mem_map.2 ⟨x, hx, rfl⟩) y hy
    rw [hln] at h1
    exact h1)
  obtain ⟨R, hR⟩ : ∃ R, linksB (nds l) = R := ⟨_, rfl⟩
  rw [hR]
  have HR := hide hR
  clear hF hfew hr hl hR hln s0
  have k0 := one_ HX.out
  go_enter Tryz.func68, Tryz.ntmps68
  go_wp2_with fail
  clear hmm k0
  go_loopw [14] (fun u wx => ∃ i : Nat, i ≤ n ∧ (pre l i).length ≤ i * 200 ∧ u = .int .i64 (i : Int) ∧ Hid (CM wx (w.heap.size + 1) (pre l i).length (pre l i)) ∧ Hid (Below w.heap.size w wx) ∧ Hid (Blk wx w.heap.size 24 #[.slice L n c])) (fun i _ => n - (intOf i).toNat)
  case atStart => exact ⟨0, Nat.zero_le _, by simp [pre, allNames], rfl, HC, HB, HX⟩
  case round =>
    clear HC HB HX
    obtain ⟨i, hi, hpl, rfl, HC, HB, HX⟩ := hrel
    by_cases hin : i < n
    · have hlt : (i : Int) < (n : Int) := by omega
      obtain ⟨g, o, x, rfl, hg, hx, hok, hc⟩ := HF.out.at_ hin
      have hxm := List.mem_of_getElem? hx
      obtain ⟨d0, d1, d2, d3, d4, d5⟩ := NdCells.below hc hg HB.out
      have h2 : g < wr.heap.size := Nat.lt_of_lt_of_le hg HB.out.size
      have i1 := fun W => nd_at g o n c i (i : Int) rfl hin W
      have hmn : x.mn ≤ 200 := by have := (HFEW.out x hxm).n; have := hok.nl; omega
      have HNL := hide hok.nl
      have HOKN := hide (fun W (hW : Below w.heap.size w W) => hok.n.below hW)
      have HRX := hide (HREF.out x hxm)
      have HPS := hide (pre_succ hx)
      obtain ⟨WC, hWC⟩ : ∃ W, wr.alloc (.cells #[Value.int .i64 x.r.kind, .int .i64 x.r.mode, .int .i64 x.r.links, .slice x.D x.dn x.dc, .slice x.M x.mn x.mc, .string ⟨x.r.to.toArray⟩] 28) = W := ⟨_, rfl⟩
      have bC : Below wr.heap.size wr WC := by rw [← hWC]; exact on_alloc _ _
      have kC : Blk WC wr.heap.size 28 #[Value.int .i64 x.r.kind, .int .i64 x.r.mode, .int .i64 x.r.links, .slice x.D x.dn x.dc, .slice x.M x.mn x.mc, .string ⟨x.r.to.toArray⟩] := by rw [← hWC]; exact Blk.new wr _ _
      have HX2 := hide (HX.out.below bC HX.out.lt)
      have HB2 := hide (HB.out.trans (bC.mono HB.out.size))
      have HC2 : Hid (CM WC (w.heap.size + 1) (pre l i ++ x.r.names.take 0).length (pre l i ++ x.r.names.take 0)) := hide (by
        rw [List.take_zero, List.append_nil]
        exact HC.out.kept (bC.block _ HC.out.lt))
      obtain ⟨e0, e1, e2, e3, e4, e5⟩ := six kC
      have e9 := kC.lt
      clear hx hok hc hxm bC kC HX HB HC
      go_wp2_with fail
      clear e0 e1 e2 e3 e4 e5 e9 d0 d1 d2 d3 d4 d5
      go_loopw [21] (fun u wx => ∃ k : Nat, k ≤ x.mn ∧ u = .int .i64 (k : Int) ∧ Hid (CM wx (w.heap.size + 1) (pre l i ++ x.r.names.take k).length (pre l i ++ x.r.names.take k)) ∧ Hid (Below w.heap.size w wx) ∧ Hid (Blk wx w.heap.size 24 #[.slice (some ⟨g, o, none⟩) n c])) (fun i _ => x.mn - (intOf i).toNat)
      case atStart => exact ⟨0, Nat.zero_le _, rfl, HC2, HB2, HX2⟩
      case round =>
        clear HC2 HB2 HX2
        rename_i wr0 _
        obtain ⟨k, hk, rfl, HC, HB, HX⟩ := hrel
        by_cases hkn : k < x.mn
        · have hklt : (k : Int) < (x.mn : Int) := by omega
          obtain ⟨g', o', y, hM, hg', hy, n0, n1⟩ := nm_cells (HOKN.out _ HB.out) hkn
          obtain ⟨hy0, hy1⟩ := HRX.out y (List.mem_of_getElem? hy)
          have hts : x.r.names.take (k + 1) = x.r.names.take k ++ [y] := by
            obtain ⟨h1, h2⟩ := List.getElem?_eq_some_iff.1 hy
            rw [List.take_succ_eq_append_getElem h1, h2]
          have hwf := wf_small hy0 (by omega)
          obtain ⟨wy, hwy⟩ : ∃ W, wr.alloc (.cells #[Value.string ⟨y.name.toArray⟩, .int .i64 y.node] 59) = W := ⟨_, rfl⟩
          have bY : Below wr.heap.size wr wy := by rw [← hwy]; exact on_alloc _ _
          have kY : Blk wy wr.heap.size 59 #[Value.string ⟨y.name.toArray⟩, .int .i64 y.node] := by rw [← hwy]; exact Blk.new wr _ _
          have CY := HC.out.kept (bY.block _ HC.out.lt)
          have XY := HX.out.below bY HX.out.lt
          have BY := HB.out.trans (bY.mono HB.out.size)
          have hlen : (pre l i ++ x.r.names.take k).length ≤ 30000 := by
            rw [List.length_append, List.length_take]; omega
          have hlook := CY.look hwf
          have hcl := List.countP_le_length (p := fun z : NM => z.node == y.node) (l := pre l i ++ x.r.names.take k)
          obtain ⟨w5, hupd, C5, G5⟩ := CY.upd (by unfold maxLen; omega) hwf (by omega)
          obtain ⟨q, hq⟩ : ∃ q : Nat, (pre l i ++ x.r.names.take k).countP (fun z => z.node == y.node) = q := ⟨_, rfl⟩
          rw [hq] at hlook hupd hcl
          have HQB : q ≤ 30000 := by omega
          have HC5 : Hid (CM w5 (w.heap.size + 1) (pre l i ++ x.r.names.take (k + 1)).length (pre l i ++ x.r.names.take (k + 1))) := hide (by
            rw [hts, ← List.append_assoc]
            have e : (pre l i ++ x.r.names.take k ++ [y]).length = (pre l i ++ x.r.names.take k).length + 1 := by rw [List.length_append (bs := [y])]; rfl
            rw [e]
            exact C5)
          have HX5 := hide (XY.grown G5 (by simp))
          have HB5 := hide (BY.grown G5 BY.size (fun z hz => by injection hz with hz; omega))
          have y1 := kY.cell 1
          have y9 := kY.lt
          simp only [List.getElem?_toArray, List.getElem?_cons_zero, List.getElem?_cons_succ] at y1
          have i2 := fun W => nm_at g' o' x.mn x.mc k (k : Int) rfl hkn W
          rw [hM]
          clear hq hcl hlen hts hy bY kY CY XY BY C5 G5 hM HB HX HC
          go_wp2_with fail
          go_roundw
          case rel => exact ⟨k + 1, by omega, by go_num, HC5, HB5, HX5⟩
          case measure => simp [intOf]; omega
        · have hklt : ¬ ((k : Int) < (x.mn : Int)) := by omega
          obtain rfl : k = x.mn := by omega
          have HC2 : Hid (CM wr (w.heap.size + 1) (pre l (i + 1)).length (pre l (i + 1))) := hide (by
            rw [HPS.out]
            have h := HC.out
            rw [List.take_of_length_le (by have := HNL.out; omega)] at h
            exact h)
          have hpl2 : (pre l (i + 1)).length ≤ (i + 1) * 200 := by rw [HPS.out, List.length_append, HNL.out]; omega
          clear HC
          go_wp2_with fail
          go_roundw
          case rel => exact ⟨i + 1, by omega, hpl2, by go_num, HC2, HB, HX⟩
          case measure => simp [intOf]; omega
    · have hlt : ¬ ((i : Int) < (n : Int)) := by omega
      obtain rfl : i = n := by omega
      have HC2 : Hid (CM wr (w.heap.size + 1) (pre l i).length (allNames (nds l))) := hide (by
        have h := HC.out
        have e : pre l i = allNames (nds l) := by unfold pre; rw [List.take_of_length_le (by rw [HLN.out]; omega)]
        rw [e] at h ⊢
        exact h)
      have k0 := one_ HX.out
      clear HC hpl
      go_wp2_with fail
      clear k0
      go_loopw [35] (fun u wx => ∃ j : Nat, j ≤ i ∧ u = .int .i64 (j : Int) ∧ Hid (∀ z, z < j → linkB (nds l) z = true) ∧ Hid (CM wx (w.heap.size + 1) (pre l i).length (allNames (nds l))) ∧ Hid (Below w.heap.size w wx)) (fun z _ => i - (intOf z).toNat)
      case atStart => exact ⟨0, Nat.zero_le _, rfl, hide (fun z hz => absurd hz (by omega)), HC2, HB⟩
      case round =>
        clear HC2 HB HX
        obtain ⟨j, hj, rfl, HA, HC, HB⟩ := hrel
        by_cases hjn : j < i
        · have hlt2 : (j : Int) < (i : Int) := by omega
          obtain ⟨g, o, x, rfl, hg, hx, hok, hc⟩ := HF.out.at_ hjn
          obtain ⟨d0, d1, d2, d3, d4, d5⟩ := NdCells.below hc hg HB.out
          have h2 : g < wr.heap.size := Nat.lt_of_lt_of_le hg HB.out.size
          have i1 := fun W => nd_at g o i c j (j : Int) rfl hjn W
          have HNL : Hid (x.r.names.isEmpty = decide (x.mn = 0)) := hide (by rw [← hok.nl]; cases x.r.names <;> simp)
          have HXR : Hid (ndAt (nds l) (j : Int) = x.r) := hide (nds_at hx)
          obtain ⟨WC, hWC⟩ : ∃ W, wr.alloc (.cells #[Value.int .i64 x.r.kind, .int .i64 x.r.mode, .int .i64 x.r.links, .slice x.D x.dn x.dc, .slice x.M x.mn x.mc, .string ⟨x.r.to.toArray⟩] 28) = W := ⟨_, rfl⟩
          have bC : Below wr.heap.size wr WC := by rw [← hWC]; exact on_alloc _ _
          have kC : Blk WC wr.heap.size 28 #[Value.int .i64 x.r.kind, .int .i64 x.r.mode, .int .i64 x.r.links, .slice x.D x.dn x.dc, .slice x.M x.mn x.mc, .string ⟨x.r.to.toArray⟩] := by rw [← hWC]; exact Blk.new wr _ _
          have HB2 := hide (HB.out.trans (bC.mono HB.out.size))
          have C2 := HC.out.kept (bC.block _ HC.out.lt)
          have hlook := C2.look (k := (j : Int)) (wf_small (by omega) (by omega))
          obtain ⟨q, hq⟩ : ∃ q : Nat, (allNames (nds l)).countP (fun z => z.node == (j : Int)) = q := ⟨_, rfl⟩
          rw [hq] at hlook
          have HQ : Hid (cnt (nds l) (j : Int) = q) := hide hq
          have HC2 := hide C2
          obtain ⟨e0, e1, e2, e3, e4, e5⟩ := six kC
          have e9 := kC.lt
          have hmn : x.mn ≤ 200 := by have := (HFEW.out x (List.mem_of_getElem? hx)).n; have := hok.nl; omega
          clear hx hok hc bC kC C2 hq HB HC
          rcases Nat.eq_zero_or_pos j with hz | hz
          · subst hz
            have j0 : (((0 : Nat) : Int) == 0) = true := rfl
            simp only [Nat.zero_mul, Nat.add_zero] at d0 d1 d2 d3 d4 d5 i1
            have hlook0 : (Instr.lookup 116 (.map (some (w.heap.size + 1))) (.int .i64 0) false).run Tryz.prog WC = .ok (.int .i64 (q : Int)) WC := hlook
            by_cases c1 : x.r.kind = 2
            · have c1b : (x.r.kind != 2) = false := by rw [c1]; rfl
              by_cases c2 : x.r.links = 1
              · have c2b : (x.r.links != 1) = false := by rw [c2]; rfl
                by_cases c3 : q = 0
                · have HK : Hid (linkB (nds l) 0 = true) := hide (by unfold linkB; rw [if_pos rfl]; rw [show (0 : Int) = ((0 : Nat) : Int) from rfl, HXR.out, HQ.out]; simp [c1, c2, c3])
                  subst c3
                  clear c1 c2
                  go_wp2_with fail
                  go_roundw
                  case rel =>
                    refine ⟨1, by omega, by go_num, hide (fun z hz => ?_), HC2, HB2⟩
                    obtain rfl : z = 0 := by omega
                    exact HK.out
                  case measure => simp [intOf]; omega
                · have HK : linkB (nds l) 0 = false := by unfold linkB; rw [if_pos rfl]; rw [show (0 : Int) = ((0 : Nat) : Int) from rfl, HXR.out, HQ.out]; simp [c1, c2, c3]
                  have c3b : ((q : Int) != 0) = true := bne_iff_ne.2 (by omega)
                  have hRe : R = false := by rw [← HR.out]; exact links_no (by rw [HLN.out]; omega) HK
                  subst hRe
                  clear c1 c2 c3 HK
                  go_wp2_with fail
                  go_ret
                  exact ⟨rfl, HB2.out⟩
              · have HK : linkB (nds l) 0 = false := by unfold linkB; rw [if_pos rfl]; rw [show (0 : Int) = ((0 : Nat) : Int) from rfl, HXR.out, HQ.out]; simp [c1, c2]
                have c2b : (x.r.links != 1) = true := bne_iff_ne.2 c2
                have hRe : R = false := by rw [← HR.out]; exact links_no (by rw [HLN.out]; omega) HK
                subst hRe
                clear c1 c2 HK
                go_wp2_with fail
                go_ret
                exact ⟨rfl, HB2.out⟩
            · have HK : linkB (nds l) 0 = false := by unfold linkB; rw [if_pos rfl]; rw [show (0 : Int) = ((0 : Nat) : Int) from rfl, HXR.out, HQ.out]; simp [c1]
              have c1b : (x.r.kind != 2) = true := bne_iff_ne.2 c1
              have hRe : R = false := by rw [← HR.out]; exact links_no (by rw [HLN.out]; omega) HK
              subst hRe
              clear c1 HK
              go_wp2_with fail
              go_ret
              exact ⟨rfl, HB2.out⟩
          · have j0 : ((j : Int) == 0) = false := beq_eq_false_iff_ne.2 (by omega)
            have hjz : ¬ j = 0 := by omega
            by_cases c1 : x.r.links = (q : Int)
            · have c1b : (x.r.links != (q : Int)) = false := by rw [c1]; simp
              by_cases c2 : x.r.kind = 2
              · have c2b : (x.r.kind == 2) = true := by rw [c2]; rfl
                by_cases c3 : 1 < x.r.links
                · have HK : linkB (nds l) j = false := by unfold linkB; rw [if_neg hjz, HXR.out, HQ.out]; simp [c2, c3]
                  have hRe : R = false := by rw [← HR.out]; exact links_no (by rw [HLN.out]; omega) HK
                  subst hRe
                  clear c1 c2 HK
                  go_wp2_with fail
                  go_ret
                  exact ⟨rfl, HB2.out⟩
                · by_cases c4 : x.r.links = 0
                  · have c4b : (x.r.links == 0) = true := by rw [c4]; rfl
                    by_cases c5 : x.mn = 0
                    · have HK : Hid (linkB (nds l) j = true) := hide (by unfold linkB; rw [if_neg hjz, HXR.out, HQ.out, HNL.out]; simp [c1.symm, c4, c5])
                      have c5b : ¬ ((0 : Int) < (x.mn : Int)) := by omega
                      clear c1 c2 c4 c5
                      go_wp2_with fail
                      go_roundw
                      case rel =>
                        refine ⟨j + 1, by omega, by go_num, hide (fun z hz => ?_), HC2, HB2⟩
                        rcases Nat.lt_or_ge z j with h | h
                        · exact HA.out z h
                        · obtain rfl : z = j := by omega
                          exact HK.out
                      case measure => simp [intOf]; omega
                    · have HK : linkB (nds l) j = false := by unfold linkB; rw [if_neg hjz, HXR.out, HQ.out, HNL.out]; simp [c2, c4, c5]
                      have c5b : ((0 : Int) < (x.mn : Int)) := by omega
                      have hRe : R = false := by rw [← HR.out]; exact links_no (by rw [HLN.out]; omega) HK
                      subst hRe
                      clear c1 c2 c4 HK
                      go_wp2_with fail
                      go_ret
                      exact ⟨rfl, HB2.out⟩
                  · have c4b : (x.r.links == 0) = false := beq_eq_false_iff_ne.2 c4
                    have HK : Hid (linkB (nds l) j = true) := hide (by unfold linkB; rw [if_neg hjz, HXR.out, HQ.out, HNL.out]; simp [c1.symm, c3, c4])
                    clear c1 c2 c4
                    go_wp2_with fail
                    go_roundw
                    case rel =>
                      refine ⟨j + 1, by omega, by go_num, hide (fun z hz => ?_), HC2, HB2⟩
                      rcases Nat.lt_or_ge z j with h | h
                      · exact HA.out z h
                      · obtain rfl : z = j := by omega
                        exact HK.out
                    case measure => simp [intOf]; omega
              · have c2b : (x.r.kind == 2) = false := beq_eq_false_iff_ne.2 c2
                have HK : Hid (linkB (nds l) j = true) := hide (by unfold linkB; rw [if_neg hjz, HXR.out, HQ.out]; simp [c1.symm, c2])
                clear c1 c2
                go_wp2_with fail
                go_roundw
                case rel =>
                  refine ⟨j + 1, by omega, by go_num, hide (fun z hz => ?_), HC2, HB2⟩
                  rcases Nat.lt_or_ge z j with h | h
                  · exact HA.out z h
                  · obtain rfl : z = j := by omega
                    exact HK.out
                case measure => simp [intOf]; omega
            · have c1b : (x.r.links != (q : Int)) = true := bne_iff_ne.2 c1
              have HK : linkB (nds l) j = false := by unfold linkB; rw [if_neg hjz, HXR.out, HQ.out]; simp [c1]
              have hRe : R = false := by rw [← HR.out]; exact links_no (by rw [HLN.out]; omega) HK
              subst hRe
              clear c1 HK
              go_wp2_with fail
              go_ret
              exact ⟨rfl, HB2.out⟩
        · have hlt2 : ¬ ((j : Int) < (i : Int)) := by omega
          have hRe : R = true := by rw [← HR.out]; exact links_yes (fun z hz => HA.out z (by have := HLN.out; omega))
          subst hRe
          go_wp2_with fail
          go_ret
          exact ⟨rfl, HB.out⟩
end Go.Proofs.YtlcoapignfmgcaaGreatDoor
namespace Go.Proofs.YtlcoapignfmgcaaGreatDoor
open Go.RowKit
set_option linter.unusedVariables false
theorem cnt_out {l : List ND} (hr : RefsOk l) {i : Int} (h : i < 0 ∨ (l.length : Int) ≤ i) : cnt l i = 0 := by
  unfold cnt allNames
  rw [List.countP_eq_zero]
  intro y hy
  obtain ⟨d, hd, hyd⟩ := List.mem_flatMap.1 hy
  have := hr d hd y hyd
  simp
  omega
theorem deep_of_links {l : List ND} (hr : RefsOk l) (hp : 0 < l.length) (hl : linksB l = true) : Deep l l.length 0 := by
  have hall : ∀ j, j < l.length → linkB l j = true := fun j hj => List.all_eq_true.1 hl j (List.mem_range.2 hj)
  have h0 : cnt l 0 = 0 := by
    have := hall 0 hp
    unfold linkB at this
    rw [if_pos rfl] at this
    simp only [Bool.and_eq_true, decide_eq_true_eq] at this
    exact this.2
  refine deep_root hp hr h0 fun i hd => ?_
  by_cases hb : i < 0 ∨ (l.length : Int) ≤ i
  · rw [cnt_out hr hb]; omega
  · obtain ⟨m, rfl⟩ : ∃ m : Nat, i = (m : Int) := ⟨i.toNat, by omega⟩
    have hm := hall m (by omega)
    unfold linkB at hm
    by_cases hz : m = 0
    · subst hz
      have : cnt l ((0 : Nat) : Int) = 0 := h0
      omega
    · rw [if_neg hz] at hm
      have hk : (ndAt l (m : Int)).kind = 2 := by unfold isDir at hd; simpa using hd
      simp only [Bool.and_eq_true, decide_eq_true_eq, Bool.not_eq_true', Bool.and_eq_false_iff, Bool.or_eq_false_iff, decide_eq_false_iff_not] at hm
      obtain ⟨h1, h2⟩ := hm
      rcases h2 with h2 | h2
      · exact absurd hk h2
      · have := h2.1
        omega
set_option maxRecDepth 100000 in
set_option maxHeartbeats 8000000 in
theorem check_any (L : Option Addr) (n c : Nat) (l : List DV) (w : World) (hF : FsR w w.heap.size L n l) (hB : FewB l) :
    Calls Tryz.prog 56 #[.agg #[.slice L n c]] w fun e w' => e = .returned (.bool (checkB (nds l))) ∧ Below w.heap.size w w' := by
  have hl := hF.len
  have hln : (nds l).length = n := by rw [nds_length, hl]
  have h60 : n ≤ 100 := by have := hB.n; omega
  have HX : Hid (Blk (w.alloc (.cells #[.slice L n c] 24)) w.heap.size 24 #[.slice L n c]) := hide (Blk.new w _ _)
  have HB : Hid (Below w.heap.size w (w.alloc (.cells #[.slice L n c] 24))) := hide (on_alloc _ _)
  have HF := hide hF
  have HL := hide hl
  have HLN := hide hln
  have HFEW := hide hB.each
  obtain ⟨R, hR⟩ : ∃ R, checkB (nds l) = R := ⟨_, rfl⟩
  rw [hR]
  have HR := hide hR
  clear hF hB hl hln hR
  have k0 := one_ HX.out
  go_enter Tryz.func56, Tryz.ntmps56
  by_cases hz : n = 0
  · have hRe : R = false := by rw [← HR.out]; unfold checkB; rw [HLN.out]; simp [hz]
    subst hRe
    have hz1 : (n : Int) < 1 := by omega
    clear hz
    go_wp2_with fail
    go_ret
    exact ⟨rfl, HB.out⟩
  have hz1 : ¬ ((n : Int) < 1) := by omega
  have hz2 : ¬ ((256 : Int) < (n : Int)) := by omega
  go_wp2_with fail
  clear k0
  go_loopw [18] (fun u wx => ∃ i : Nat, i ≤ n ∧ u = .int .i64 (i : Int) ∧ Hid (∀ j x, j < i → l[j]? = some x → nodeB x.r (n : Int) = true) ∧ Hid (Below w.heap.size w wx) ∧ Hid (Blk wx w.heap.size 24 #[.slice L n c])) (fun i _ => n - (intOf i).toNat)
  case atStart => exact ⟨0, Nat.zero_le _, rfl, hide (fun j x hj => absurd hj (by omega)), HB, HX⟩
  case round =>
    clear HB HX
    obtain ⟨i, hi, rfl, HA, HB, HX⟩ := hrel
    by_cases hin : i < n
    · have hlt : (i : Int) < (n : Int) := by omega
      obtain ⟨g, o, x, rfl, hg, hx, hok, hc⟩ := HF.out.at_ hin
      obtain ⟨d0, d1, d2, d3, d4, d5⟩ := NdCells.below hc hg HB.out
      have h2 : g < wr.heap.size := Nat.lt_of_lt_of_le hg HB.out.size
      have i1 := fun W => nd_at g o n c i (i : Int) rfl hin W
      obtain ⟨WC, hWC⟩ : ∃ W, wr.alloc (.cells #[Value.int .i64 x.r.kind, .int .i64 x.r.mode, .int .i64 x.r.links, .slice x.D x.dn x.dc, .slice x.M x.mn x.mc, .string ⟨x.r.to.toArray⟩] 28) = W := ⟨_, rfl⟩
      have bC : Below wr.heap.size wr WC := by rw [← hWC]; exact on_alloc _ _
      have kC : Blk WC wr.heap.size 28 #[Value.int .i64 x.r.kind, .int .i64 x.r.mode, .int .i64 x.r.links, .slice x.D x.dn x.dc, .slice x.M x.mn x.mc, .string ⟨x.r.to.toArray⟩] := by rw [← hWC]; exact Blk.new wr _ _
      have HX2 := hide (HX.out.below bC HX.out.lt)
      have HB2 := hide (HB.out.trans (bC.mono HB.out.size))
      have XN := hide (node_any x (n : Int) WC ((hok.below HB2.out).more HB2.out.size) (HFEW.out x (List.mem_of_getElem? hx)))
      unfold DV.cs at XN
      have k0 := one_ HX2.out
      obtain ⟨e0, e1, e2, e3, e4, e5⟩ := six kC
      have e9 := kC.lt
      have HXX := hide hx
      clear hx hok hc bC kC HB HX
      go_wp2_with fail
      refine XN.out.mono ?_
      rintro e w3 ⟨rfl, hb⟩
      have HX3 := hide (HX2.out.below hb HX2.out.lt)
      have HB3 := hide (HB2.out.trans (hb.mono HB2.out.size))
      clear hb XN HX2 HB2 k0 e0 e1 e2 e3 e4 e5
      cases hnb : nodeB x.r (n : Int) with
      | false =>
        have hRe : R = false := by
          rw [← HR.out]
          unfold checkB
          have : (nds l).all (fun m => nodeB m ((nds l).length : Int)) = false := by
            rw [Bool.eq_false_iff]
            intro h
            have := List.all_eq_true.1 h x.r (by unfold nds; exact List.mem_map.2 ⟨x, List.mem_of_getElem? HXX.out, rfl⟩)
            rw [HLN.out, hnb] at this; cases this
          rw [this]; simp
        subst hRe
        clear hnb
        go_wp2_with fail
        go_ret
        exact ⟨rfl, HB3.out⟩
      | true =>
        have HNB := hide hnb
        clear hnb
        go_wp2_with fail
        go_roundw
        case rel =>
          refine ⟨i + 1, by omega, by go_num, hide (fun j z hj hzj => ?_), HB3, HX3⟩
          rcases Nat.lt_or_ge j i with h | h
          · exact HA.out j z h hzj
          · obtain rfl : j = i := by omega
            have := HXX.out
            rw [this] at hzj; injection hzj with hzj; subst hzj
            exact HNB.out
        case measure => simp [intOf]; omega
    · have hlt : ¬ ((i : Int) < (n : Int)) := by omega
      obtain rfl : i = n := by omega
      have hallN : ∀ m ∈ nds l, nodeB m ((nds l).length : Int) = true := fun m hm => by
        unfold nds at hm
        obtain ⟨x, hx, rfl⟩ := List.mem_map.1 hm
        obtain ⟨j, hj⟩ := List.mem_iff_getElem?.1 hx
        have hjl : j < l.length := (List.getElem?_eq_some_iff.1 hj).1
        rw [HLN.out]
        exact HA.out j x (by have := HL.out; omega) hj
      have hrefs := refs_of hallN
      have HRF := hide hrefs
      have XL := hide (fun (W : World) (hW : Below w.heap.size w W) => links_any L i c l W ((HF.out.below hW).more hW.size) HFEW.out hrefs h60)
      have k0 := one_ HX.out
      have HCK : Hid (R = (linksB (nds l) && treeB (nds l))) := hide (by
        rw [← HR.out]
        unfold checkB
        rw [List.all_eq_true.2 hallN, HLN.out]
        simp only [show 1 ≤ i by omega, show i ≤ 256 by omega, decide_true, Bool.true_and])
      clear hallN hrefs
      go_wp2_with fail
      refine (XL.out _ HB.out).mono ?_
      rintro e w3 ⟨rfl, hb⟩
      have HX3 := hide (HX.out.below hb HX.out.lt)
      have HB3 := hide (HB.out.trans (hb.mono HB.out.size))
      clear hb XL k0
      have k0 := one_ HX3.out
      cases hlb : linksB (nds l) with
      | false =>
        have hRe : R = false := by rw [HCK.out, hlb]; rfl
        subst hRe
        clear hlb
        go_wp2_with fail
        go_ret
        exact ⟨rfl, HB3.out⟩
      | true =>
        have hRe : R = treeB (nds l) := by rw [HCK.out, hlb]; rfl
        have hdp := deep_of_links HRF.out (by rw [HLN.out]; omega) hlb
        rw [HLN.out] at hdp
        have XT := hide (tree_any L i c l w3 ((HF.out.below HB3.out).more HB3.out.size) HFEW.out HRF.out hdp (by omega) h60)
        rw [← hRe] at XT
        clear hlb hdp hRe
        go_wp2_with fail
        refine XT.out.mono ?_
        rintro e w4 ⟨rfl, hb⟩
        have HB4 := hide (HB3.out.trans (hb.mono HB3.out.size))
        clear hb XT
        go_wp2_with fail
        go_ret
        exact ⟨rfl, HB4.out⟩
end Go.Proofs.YtlcoapignfmgcaaGreatDoor
