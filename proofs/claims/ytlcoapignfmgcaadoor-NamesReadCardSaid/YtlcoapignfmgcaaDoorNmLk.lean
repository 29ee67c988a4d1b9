/- The law NamesKeeps. -/
import Derived.Test.YtlcoapignfmgcaaDoorNmKd
import Derived.Deep.CutBlock
namespace Go.Proofs.YtlcoapignfmgcaaDoor
open Go.RowKit
set_option linter.unusedVariables false
/-- Nothing of a file system lies in a block. -/
def OffB (L : Option Addr) (n : Nat) (X : List DV) (g : Nat) : Prop := Off L n g ∧ ∀ x ∈ X, Off x.D x.dn g ∧ Off x.M x.mn g
theorem FsR.far {w : World} {B n : Nat} {L : Option Addr} {X : List DV} (h : FsR w B L n X) {p : Addr} (ho : OffB L n X p.block) (u : Value) : FsR (w.setCell p u) B L n X :=
  ⟨Reads.far h.rd ho.1 u, fun x hx => ⟨Reads.far (h.ok x hx).d (ho.2 x hx).1 u, Reads.far (h.ok x hx).n (ho.2 x hx).2 u⟩⟩
theorem off_below {w : World} {B g n : Nat} {L : Option Addr} {X : List DV} (h : FsR w B L n X) (hg : B ≤ g) : OffB L n X g := by
  refine ⟨fun hn ad e => ?_, fun x hx => ⟨fun hn ad e => ?_, fun hn ad e => ?_⟩⟩
  · obtain ⟨ad', e', hb, _⟩ := h.rd.2 hn
    rw [e] at e'; injection e' with e'; subst e'; omega
  · obtain ⟨ad', e', hb, _⟩ := (h.ok x hx).d.2 hn
    rw [e] at e'; injection e' with e'; subst e'; omega
  · obtain ⟨ad', e', hb, _⟩ := (h.ok x hx).n.2 hn
    rw [e] at e'; injection e' with e'; subst e'; omega
theorem off_own {B g n c : Nat} {w : World} {L : Option Addr} {X : List DV} (h : OF B w L n c X) (hg : g < B) : OffB L n X g := by
  refine ⟨fun hn ad e => ?_, fun x hx => ⟨(h.lo x hx).1.off hg, (h.lo x hx).2.1.off hg⟩⟩
  obtain ⟨g', e', hb, _⟩ := h.addr hn
  rw [e] at e'; injection e' with e'; subst e'
  show g' ≠ g; omega
/-- What the loop keeps. -/
structure LK (w V : World) (fb : Nat) (L : Option Addr) (n c : Nat) (X : List DV) (i : Nat) : Prop where
  blk : Blk V fb 24 #[.slice L n c]
  fs : FsR V V.heap.size L n X
  inv : Inv6 (nds X) i
  bl : Below w.heap.size w V
  hi : w.heap.size ≤ fb
  off : OffB L n X fb
theorem LK.below {w V V' : World} {fb : Nat} {L : Option Addr} {n c i : Nat} {X : List DV} (h : LK w V fb L n c X i) (hb : Below V.heap.size V V') : LK w V' fb L n c X i :=
  ⟨h.blk.below hb h.blk.lt, (h.fs.below hb).more hb.size, h.inv, h.bl.trans (hb.mono h.bl.size), h.hi, h.off⟩
/-- What a change leaves in its own box. -/
structure LG (V : World) (fb gb : Nat) (L : Option Addr) (n c : Nat) (X : List DV) (l : List ND) : Prop where
  g : Blk V gb 24 #[.slice L n c]
  fs : FsR V V.heap.size L n X
  nd : nds X = l
  off : OffB L n X fb
theorem LG.put {V V' : World} {fb gb : Nat} {L' : Option Addr} {n' c' : Nat} {X' : List DV} {l : List ND} {v : Value} (hg : Blk V gb 24 #[v]) (hf : fb < V.heap.size) (hO : OF V.heap.size V' L' n' c' X') (hR : nds X' = l) (hb : Below V.heap.size V V') :
    LG (V'.setCell ⟨gb, 0, none⟩ (.slice L' n' c')) fb gb L' n' c' X' l := by
  have hgl := hg.lt
  have hs : Blk (V'.setCell ⟨gb, 0, none⟩ (.slice L' n' c')) gb 24 #[.slice L' n' c'] := Blk.set_ (hg.below hb hgl) 0 (.slice L' n' c')
  have hO2 := hO.far (p := ⟨gb, 0, none⟩) hgl (.slice L' n' c')
  exact ⟨hs, hO2.fs, hR, off_own hO hf⟩
theorem LG.below {V V' : World} {fb gb : Nat} {L : Option Addr} {n c : Nat} {X : List DV} {l : List ND} (h : LG V fb gb L n c X l) (hb : Below V.heap.size V V') : LG V' fb gb L n c X l := ⟨h.g.below hb h.g.lt, (h.fs.below hb).more hb.size, h.nd, h.off⟩
/-- The next round's file system. -/
theorem LK.next {w V : World} {fb gb : Nat} {L L' : Option Addr} {n c n' c' i : Nat} {X X' : List DV} {l : List ND} (h : LK w V fb L n c X i) (hG : LG V fb gb L' n' c' X' l) (hK : Kept (nds X) l) : LK w (V.setCell ⟨fb, 0, none⟩ (.slice L' n' c')) fb L' n' c' X' (i + 1) := by
  have hs : Blk (V.setCell ⟨fb, 0, none⟩ (.slice L' n' c')) fb 24 #[.slice L' n' c'] := Blk.set_ h.blk 0 (.slice L' n' c')
  have hsz : (V.setCell ⟨fb, 0, none⟩ (.slice L' n' c')).heap.size = V.heap.size := by simp
  refine ⟨hs, by rw [hsz]; exact hG.fs.far (p := ⟨fb, 0, none⟩) hG.off _, by rw [hG.nd]; exact h.inv.next hK, h.bl.setCell (p := ⟨fb, 0, none⟩) h.hi _, h.hi, hG.off⟩
theorem seven {w : World} {g : Nat} {t : TypeId} {a b c d e f h : Value} (H : Blk w g t #[a, b, c, d, e, f, h]) :
    w.cell? ⟨g, 0, none⟩ = some a ∧ w.cell? ⟨g, 1, none⟩ = some b ∧ w.cell? ⟨g, 2, none⟩ = some c ∧ w.cell? ⟨g, 3, none⟩ = some d ∧ w.cell? ⟨g, 4, none⟩ = some e ∧ w.cell? ⟨g, 5, none⟩ = some f ∧ w.cell? ⟨g, 6, none⟩ = some h :=
  ⟨H.cell 0, H.cell 1, H.cell 2, H.cell 3, H.cell 4, H.cell 5, H.cell 6⟩
set_option maxRecDepth 100000 in
set_option maxHeartbeats 16000000 in
theorem keeps_b (L : Option Addr) (n c : Nat) (X : List DV) (A : Option Addr) (m cm : Nat) (Q : List QV) (w : World) (hS : Std w) (hF : FsR w w.heap.size L n X) (hD : DoR w w.heap.size A m Q) (hn : n ≤ maxLen) (hm : m ≤ maxLen) :
    Calls Tryd.prog 3 #[.agg #[.slice L n c], .slice A m cm] w fun e w' => e = .returned (.bool true) ∧ Below w.heap.size w w' := by
  have HST := hide hS
  have HD := hide hD
  have HMM := hide hm
  obtain ⟨W1, hW1⟩ : ∃ W, w.alloc (.cells #[.slice L n c] 24) = W := ⟨_, rfl⟩
  have h1 : Blk W1 w.heap.size 24 #[.slice L n c] := by rw [← hW1]; exact Blk.new w _ _
  have b1 : Below w.heap.size w W1 := by rw [← hW1]; exact on_alloc _ _
  have HX := hide h1
  have HB := hide b1
  have HOF := hide (off_below hF (Nat.le_refl w.heap.size))
  have HF := hide (fun (W : World) (hW : Below w.heap.size w W) => (hF.below hW).more hW.size)
  have XF := hide (few6_any L n c X W1 (HF.out W1 b1) hn)
  have k0 := one_ h1
  clear hF h1 b1 hS hD hm
  go_enter Tryd.func3, Tryd.ntmps3
  go_wp2_with (rw [hW1])
  refine XF.out.mono ?_
  rintro e w2 ⟨fw, rfl, hfw, hb2⟩
  have HX2 := hide (HX.out.below hb2 HX.out.lt)
  have HB2 := hide (HB.out.trans (hb2.mono HB.out.size))
  have HFW := hide hfw
  clear hb2 k0 HX HB XF hW1 hfw
  have k0 := one_ HX2.out
  cases fw with
  | false =>
    have XH := hide (heads_n w2 (HST.out.below HB2.out))
    go_wp2_with fail
    refine XH.out.mono ?_
    rintro e wz ⟨rfl, hbz⟩
    have HE := hide (HB2.out.trans (hbz.mono HB2.out.size))
    clear hbz XH
    go_wp2_with fail
    go_ret
    exact ⟨rfl, HE.out⟩
  | true =>
    have hF6 := HFW.out rfl
    have HF6 := hide hF6
    have XC := hide (rcheck_any L n c X w2 (HF.out w2 HB2.out) ⟨by have := hF6.n; omega, fun x hx => ⟨(hF6.each x hx).d, (hF6.each x hx).tt, by have := (hF6.each x hx).n; omega, (hF6.each x hx).nm⟩, by have := hF6.all; omega⟩)
    obtain ⟨ck, hck⟩ : ∃ b, checkB (nds X) = b := ⟨_, rfl⟩
    rw [hck] at XC
    have HCK := hide hck
    clear hF6 hck HFW
    go_wp2_with fail
    refine XC.out.mono ?_
    rintro e w3 ⟨rfl, hb3⟩
    have HX3 := hide (HX2.out.below hb3 HX2.out.lt)
    have HB3 := hide (HB2.out.trans (hb3.mono HB2.out.size))
    clear hb3 k0 HX2 HB2 XC
    have k0 := one_ HX3.out
    cases ck with
    | false =>
      have XH := hide (heads_n w3 (HST.out.below HB3.out))
      go_wp2_with fail
      refine XH.out.mono ?_
      rintro e wz ⟨rfl, hbz⟩
      have HE := hide (HB3.out.trans (hbz.mono HB3.out.size))
      clear hbz XH
      go_wp2_with fail
      go_ret
      exact ⟨rfl, HE.out⟩
    | true =>
      by_cases hm30 : m ≤ 30
      · have hm2 : ¬ ((30 : Int) < (m : Int)) := by omega
        have HL3 : Hid (LK w w3 w.heap.size L n c X 0) := hide ⟨HX3.out, HF.out w3 HB3.out, inv_start HF6.out HCK.out, HB3.out, Nat.le_refl _, HOF.out⟩
        clear HX3 HB3 HF6 HCK HOF k0 HF
        go_wp2_with fail
        go_loopw [5] (fun u5 wx => ∃ (i : Nat) (L : Option Addr) (n c : Nat) (X : List DV), i ≤ m ∧ u5 = .int .i64 (i : Int) ∧ Hid (LK w wx w.heap.size L n c X i)) (fun i _ => m - (intOf i).toNat)
        case atStart => exact ⟨0, L, n, c, X, Nat.zero_le _, rfl, HL3⟩
        case round =>
          clear HL3
          obtain ⟨i, L, n, c, X, hi, rfl, HL⟩ := hrel
          by_cases him : i < m
          · have hlt : (i : Int) < (m : Int) := by omega
            have hdr := HD.out
            obtain ⟨g, of, x, rfl, hg, hx, hd, hc⟩ := hdr.at_ him
            obtain ⟨⟨wh, a, b, xs, ys, kd, da⟩, D, dn, dc⟩ := x
            have hdl : da.length = dn := by have := hd.1; rw [bv_length] at this; dsimp only at this; omega
            obtain ⟨d0, d1, d2, d3, d4, d5, d6⟩ := QvCells.below hc hg HL.out.bl
            dsimp only at d0 d1 d2 d3 d4 d5 d6
            have i1 := fun W => do_at g of m cm i (i : Int) rfl him W
            have hgl : g < wr.heap.size := Nat.lt_of_lt_of_le hg HL.out.bl.size
            obtain ⟨V1, hV1⟩ : ∃ W, wr.alloc (.cells #[.int .i64 wh, .int .i64 a, .int .i64 b, .string ⟨xs.toArray⟩, .string ⟨ys.toArray⟩, .int .i64 kd, .slice D dn dc] 30) = W := ⟨_, rfl⟩
            have hb1 : Below wr.heap.size wr V1 := by rw [← hV1]; exact on_alloc _ _
            have HQ1 : Hid (Blk V1 wr.heap.size 30 #[.int .i64 wh, .int .i64 a, .int .i64 b, .string ⟨xs.toArray⟩, .string ⟨ys.toArray⟩, .int .i64 kd, .slice D dn dc]) := hide (by rw [← hV1]; exact Blk.new wr _ _)
            have HB1 := hide hb1
            have HBw := hide (HL.out.bl.trans (hb1.mono HL.out.bl.size))
            have HDD := hide hd
            have HDL := hide hdl
            have XS := hide (short_c xs ys V1)
            obtain ⟨sb, hsb⟩ : ∃ x, shortB xs ys = x := ⟨_, rfl⟩
            rw [hsb] at XS
            have HSB := hide hsb
            obtain ⟨q0, q1, q2, q3, q4, q5, q6⟩ := seven HQ1.out
            clear hb1 hd hdl hsb hx hc hdr
            go_wp2_with (rw [hV1])
            clear d0 d1 d2 d3 d4 d5 d6
            refine XS.out.mono ?_
            rintro e w4 ⟨rfl, rfl⟩
            cases sb with
            | false =>
              have XH := hide (heads_n V1 (HST.out.below HBw.out))
              go_wp2_with fail
              refine XH.out.mono ?_
              rintro e wz ⟨rfl, hbz⟩
              have HE := hide (HBw.out.trans (hbz.mono HBw.out.size))
              clear hbz XH
              go_wp2_with fail
              go_ret
              exact ⟨rfl, HE.out⟩
            | true =>
              by_cases hdn : dn ≤ 5000
              · have hdn2 : ¬ ((5000 : Int) < (dn : Int)) := by omega
                have kf := one_ (HL.out.blk.below HB1.out HL.out.blk.lt)
                obtain ⟨V2, hV2⟩ : ∃ W, V1.alloc (.cells #[.slice L n c] 24) = W := ⟨_, rfl⟩
                have hb2 : Below V1.heap.size V1 V2 := by rw [← hV2]; exact on_alloc _ _
                have HBr := hide (HB1.out.trans (hb2.mono HB1.out.size))
                have HQ2 := hide (HQ1.out.below hb2 HQ1.out.lt)
                have hgb : Blk V2 V1.heap.size 24 #[.slice L n c] := by rw [← hV2]; exact Blk.new V1 _ _
                have HGB := hide hgb
                have HL2 := hide (HL.out.below HBr.out)
                have hfb : w.heap.size < V2.heap.size := HL2.out.blk.lt
                obtain ⟨gb, hgbe⟩ : ∃ b, V1.heap.size = b := ⟨_, rfl⟩
                rw [hgbe] at HGB
                have hfg : w.heap.size < gb := by rw [← hgbe]; exact Nat.lt_of_lt_of_le HL.out.blk.lt HB1.out.size
                have hwg : wr.heap.size ≤ gb := by rw [← hgbe]; exact HB1.out.size
                have hsh : xs.length ≤ 300 ∧ ys.length ≤ 300 := by
                  have := HSB.out
                  unfold shortB at this
                  simpa [Bool.and_eq_true, decide_eq_true_eq] using this
                have HSH := hide hsh
                have HKP := hide (do_keeps HL.out.inv.ck ⟨wh, a, b, xs, ys, kd, da⟩)
                have HFEW := hide (HL.out.inv.few (by omega))
                have HDA : Hid (Rd V2 D dn da) := hide ((Reads.below HDD.out HL2.out.bl).more HL2.out.bl.size)
                have D1 := hide (fun (h : wh = 1) => do_1 L n c X wh a b kd xs ys da V2 HL2.out.fs HFEW.out HSH.out.1 HSH.out.2 h)
                have D2 := hide (fun (h : wh = 2) => do_2 L n c X wh a b kd xs ys da V2 HL2.out.fs HFEW.out HSH.out.1 h)
                have D3 := hide (fun (h : wh = 3) => do_3 L n c X wh a b kd xs ys da V2 HL2.out.fs HFEW.out h)
                have D4 := hide (fun (h : wh = 4) => do_4 L n c X wh a b kd xs ys da V2 (HST.out.below HL2.out.bl) HL2.out.fs HFEW.out HSH.out.2 h)
                have D5 := hide (fun (h : wh = 5) => do_5 L n c X wh a b kd xs ys da D dn dc V2 HL2.out.fs HFEW.out HDA.out (by omega) h)
                have D6 := hide (fun (h : wh = 6) => do_6 L n c X wh a b kd xs ys da V2 HL2.out.fs HFEW.out h)
                have D0 := hide (fun (h1 : ¬ wh = 1) (h2 : ¬ wh = 2) (h3 : ¬ wh = 3) (h4 : ¬ wh = 4) (h5 : ¬ wh = 5) (h6 : ¬ wh = 6) => do_0 (l := nds X) (wh := wh) (a := a) (b := b) (kd := kd) (xs := xs) (ys := ys) (da := da) h1 h2 h3 h4 h5 h6)
                obtain ⟨E, hE⟩ : ∃ E, (doP (nds X) ⟨wh, a, b, xs, ys, kd, da⟩).2 = E := ⟨_, rfl⟩
                obtain ⟨LN, hLN⟩ : ∃ l, (doP (nds X) ⟨wh, a, b, xs, ys, kd, da⟩).1 = l := ⟨_, rfl⟩
                rw [hE, hLN] at D1 D2 D3 D4 D5 D6 D0 HKP
                obtain ⟨r0, r1, r2, r3, r4, r5, r6⟩ := seven HQ2.out
                have kf2 := one_ HL2.out.blk
                clear hb2 hgb hsh hE hLN HSB HB1 HQ1 HDL i1
                go_upto_block 2 with (rw [hV2])
                try rw [hgbe]
                clear q0 q1 q2 q3 q4 q5 q6 hdn2
                go_cut [8] (fun u8 wx => ∃ (L' : Option Addr) (n' c' : Nat) (X' : List DV), u8 = .int .i64 E ∧ Hid (LG wx w.heap.size gb L' n' c' X' LN) ∧ Hid (Below wr.heap.size wr wx))
                case first =>
                  have kg := one_ HGB.out
                  have kgz := HGB.out.frozen 0
                  have kgl := HGB.out.lt
                  by_cases h1 : wh = 1
                  · have XC := hide (D1.out h1)
                    have HW := hide h1
                    subst h1
                    clear D0 D1 D2 D3 D4 D5 D6
                    go_wp2_with fail
                    refine XC.out.mono ?_
                    rintro e w5 ⟨k5, L5, n5, c5, X5, rfl, hO, hR, hb⟩
                    have HG := hide (LG.put HGB.out hfb hO hR hb)
                    have HBc : Hid (Below wr.heap.size wr (w5.setCell ⟨gb, 0, none⟩ (.slice L5 n5 c5))) := hide ((HBr.out.trans (hb.mono HBr.out.size)).setCell (p := ⟨gb, 0, none⟩) (by show wr.heap.size ≤ gb; exact hwg) _)
                    have hg5 := HGB.out.below hb HGB.out.lt
                    clear kg kgz kgl
                    have kg := one_ hg5
                    have kgz := hg5.frozen 0
                    have kgl := hg5.lt
                    clear hO hR hb hg5 XC
                    go_wp2_with fail
                    go_meet
                    exact ⟨L5, n5, c5, X5, rfl, HG, HBc⟩
                  have hb1 : (wh == 1) = false := beq_eq_false_iff_ne.2 h1
                  by_cases h2 : wh = 2
                  · have XC := hide (D2.out h2)
                    have HW := hide h2
                    subst h2
                    clear D0 D1 D2 D3 D4 D5 D6
                    go_wp2_with fail
                    refine XC.out.mono ?_
                    rintro e w5 ⟨L5, n5, c5, X5, rfl, hO, hR, hb⟩
                    have HG := hide (LG.put HGB.out hfb hO hR hb)
                    have HBc : Hid (Below wr.heap.size wr (w5.setCell ⟨gb, 0, none⟩ (.slice L5 n5 c5))) := hide ((HBr.out.trans (hb.mono HBr.out.size)).setCell (p := ⟨gb, 0, none⟩) (by show wr.heap.size ≤ gb; exact hwg) _)
                    have hg5 := HGB.out.below hb HGB.out.lt
                    clear kg kgz kgl
                    have kg := one_ hg5
                    have kgz := hg5.frozen 0
                    have kgl := hg5.lt
                    clear hO hR hb hg5 XC
                    go_wp2_with fail
                    go_meet
                    exact ⟨L5, n5, c5, X5, rfl, HG, HBc⟩
                  have hb2 : (wh == 2) = false := beq_eq_false_iff_ne.2 h2
                  by_cases h3 : wh = 3
                  · have XC := hide (D3.out h3)
                    have HW := hide h3
                    subst h3
                    clear D0 D1 D2 D3 D4 D5 D6
                    go_wp2_with fail
                    refine XC.out.mono ?_
                    rintro e w5 ⟨L5, n5, c5, X5, rfl, hO, hR, hb⟩
                    have HG := hide (LG.put HGB.out hfb hO hR hb)
                    have HBc : Hid (Below wr.heap.size wr (w5.setCell ⟨gb, 0, none⟩ (.slice L5 n5 c5))) := hide ((HBr.out.trans (hb.mono HBr.out.size)).setCell (p := ⟨gb, 0, none⟩) (by show wr.heap.size ≤ gb; exact hwg) _)
                    have hg5 := HGB.out.below hb HGB.out.lt
                    clear kg kgz kgl
                    have kg := one_ hg5
                    have kgz := hg5.frozen 0
                    have kgl := hg5.lt
                    clear hO hR hb hg5 XC
                    go_wp2_with fail
                    go_meet
                    exact ⟨L5, n5, c5, X5, rfl, HG, HBc⟩
                  have hb3 : (wh == 3) = false := beq_eq_false_iff_ne.2 h3
                  by_cases h4 : wh = 4
                  · have XC := hide (D4.out h4)
                    have HW := hide h4
                    subst h4
                    clear D0 D1 D2 D3 D4 D5 D6
                    go_wp2_with fail
                    refine XC.out.mono ?_
                    rintro e w5 ⟨L5, n5, c5, X5, rfl, hO, hR, hb⟩
                    have HG := hide (LG.put HGB.out hfb hO hR hb)
                    have HBc : Hid (Below wr.heap.size wr (w5.setCell ⟨gb, 0, none⟩ (.slice L5 n5 c5))) := hide ((HBr.out.trans (hb.mono HBr.out.size)).setCell (p := ⟨gb, 0, none⟩) (by show wr.heap.size ≤ gb; exact hwg) _)
                    have hg5 := HGB.out.below hb HGB.out.lt
                    clear kg kgz kgl
                    have kg := one_ hg5
                    have kgz := hg5.frozen 0
                    have kgl := hg5.lt
                    clear hO hR hb hg5 XC
                    go_wp2_with fail
                    go_meet
                    exact ⟨L5, n5, c5, X5, rfl, HG, HBc⟩
                  have hb4 : (wh == 4) = false := beq_eq_false_iff_ne.2 h4
                  by_cases h5 : wh = 5
                  · have XC := hide (D5.out h5)
                    have HW := hide h5
                    subst h5
                    clear D0 D1 D2 D3 D4 D5 D6
                    go_wp2_with fail
                    refine XC.out.mono ?_
                    rintro e w5 ⟨k5, L5, n5, c5, X5, rfl, hO, hR, hb⟩
                    have HG := hide (LG.put HGB.out hfb hO hR hb)
                    have HBc : Hid (Below wr.heap.size wr (w5.setCell ⟨gb, 0, none⟩ (.slice L5 n5 c5))) := hide ((HBr.out.trans (hb.mono HBr.out.size)).setCell (p := ⟨gb, 0, none⟩) (by show wr.heap.size ≤ gb; exact hwg) _)
                    have hg5 := HGB.out.below hb HGB.out.lt
                    clear kg kgz kgl
                    have kg := one_ hg5
                    have kgz := hg5.frozen 0
                    have kgl := hg5.lt
                    clear hO hR hb hg5 XC
                    go_wp2_with fail
                    go_meet
                    exact ⟨L5, n5, c5, X5, rfl, HG, HBc⟩
                  have hb5 : (wh == 5) = false := beq_eq_false_iff_ne.2 h5
                  by_cases h6 : wh = 6
                  · have XC := hide (D6.out h6)
                    have HW := hide h6
                    subst h6
                    clear D0 D1 D2 D3 D4 D5 D6
                    go_wp2_with fail
                    refine XC.out.mono ?_
                    rintro e w5 ⟨L5, n5, c5, X5, rfl, hO, hR, hb⟩
                    have HG := hide (LG.put HGB.out hfb hO hR hb)
                    have HBc : Hid (Below wr.heap.size wr (w5.setCell ⟨gb, 0, none⟩ (.slice L5 n5 c5))) := hide ((HBr.out.trans (hb.mono HBr.out.size)).setCell (p := ⟨gb, 0, none⟩) (by show wr.heap.size ≤ gb; exact hwg) _)
                    have hg5 := HGB.out.below hb HGB.out.lt
                    clear kg kgz kgl
                    have kg := one_ hg5
                    have kgz := hg5.frozen 0
                    have kgl := hg5.lt
                    clear hO hR hb hg5 XC
                    go_wp2_with fail
                    go_meet
                    exact ⟨L5, n5, c5, X5, rfl, HG, HBc⟩
                  have hb6 : (wh == 6) = false := beq_eq_false_iff_ne.2 h6
                  have hD := D0.out h1 h2 h3 h4 h5 h6
                  have HG : Hid (LG V2 w.heap.size gb L n c X LN) := hide ⟨HGB.out, HL2.out.fs, hD.1.symm, HL2.out.off⟩
                  have hE0 := hD.2
                  subst hE0
                  clear D0 D1 D2 D3 D4 D5 D6 hD h1 h2 h3 h4 h5 h6
                  go_wp2_with fail
                  go_meet
                  exact ⟨L, n, c, X, rfl, HG, HBr⟩
                case rest =>
                  obtain ⟨L', n', c', X', rfl, HG, HBc⟩ := hcut
                  have HLc := hide (HL.out.below HBc.out)
                  have HFEW2 := hide (Inv6.few (X := X') (i := i + 1) (by rw [HG.out.nd]; exact HL.out.inv.next HKP.out.1) (by omega))
                  have XK := hide (rcheck_any L' n' c' X' wc HG.out.fs HFEW2.out)
                  have hck : checkB (nds X') = true := by rw [HG.out.nd]; exact HKP.out.1.ck
                  rw [hck] at XK
                  have hln : (nds X).length = n := by rw [nds_length]; exact HL.out.fs.len
                  have hln2 : LN.length = n' := by rw [← HG.out.nd, nds_length]; exact HG.out.fs.len
                  have hge := HKP.out.1.ge
                  have hnn : ¬ ((n' : Int) < (n : Int)) := by omega
                  have HNN := hide (And.intro hln hln2)
                  have kf := one_ HLc.out.blk
                  have kg := one_ HG.out.g
                  clear hck hln hln2 hge D0 D1 D2 D3 D4 D5 D6 r0 r1 r2 r3 r4 r5 r6 kf2 HQ2 HL2 HGB HDA HDD hfb
                  go_wp2_with fail
                  refine XK.out.mono ?_
                  rintro e w6 ⟨rfl, hb6⟩
                  have HL6 := hide (HLc.out.below hb6)
                  have HG6 := hide (HG.out.below hb6)
                  clear hb6 XK kf kg HLc HG
                  have kf := one_ HL6.out.blk
                  have kfz := HL6.out.blk.frozen 0
                  have kfl := HL6.out.blk.lt
                  have kg := one_ HG6.out.g
                  by_cases h0 : E = 0
                  · subst h0
                    go_wp2_with fail
                    go_roundw
                    case rel => exact ⟨i + 1, L', n', c', X', by omega, by go_num, hide (HL6.out.next HG6.out HKP.out.1)⟩
                    case measure => simp [intOf]; omega
                  · have hEb : (E != 0) = true := bne_iff_ne.2 h0
                    have hsame : nds X = nds X' := by rw [HG6.out.nd, HKP.out.2 h0]
                    have hnn2 : n' = n := by
                      have h1 := HNN.out.1
                      have h2 := HG6.out.fs.len
                      have h3 := congrArg List.length hsame
                      rw [nds_length, nds_length] at h3
                      rw [nds_length] at h1
                      omega
                    have HSA := hide hsame
                    subst hnn2
                    have XS := hide (rsame_any L L' n' c c' X X' w6 HL6.out.fs HG6.out.fs HSA.out (by have := HNN.out.1; rw [nds_length] at this; have := HFEW.out.n; omega) (fun x hx => by have := (HL6.out.fs.ok x hx).nl; have := (HFEW.out.each x hx).n; omega))
                    clear hsame h0
                    go_wp2_with fail
                    refine XS.out.mono ?_
                    rintro e w7 ⟨rfl, hb7⟩
                    have HL7 := hide (HL6.out.below hb7)
                    have HG7 := hide (HG6.out.below hb7)
                    clear hb7 XS kf kfz kfl kg HL6 HG6
                    have kf := one_ HL7.out.blk
                    have kfz := HL7.out.blk.frozen 0
                    have kfl := HL7.out.blk.lt
                    have kg := one_ HG7.out.g
                    go_wp2_with fail
                    go_roundw
                    case rel => exact ⟨i + 1, L', n', c', X', by omega, by go_num, hide (HL7.out.next HG7.out HKP.out.1)⟩
                    case measure => simp [intOf]; omega
              · have hdn2 : (5000 : Int) < (dn : Int) := by omega
                have XH := hide (heads_n V1 (HST.out.below HBw.out))
                go_wp2_with fail
                refine XH.out.mono ?_
                rintro e wz ⟨rfl, hbz⟩
                have HE := hide (HBw.out.trans (hbz.mono HBw.out.size))
                clear hbz XH
                go_wp2_with fail
                go_ret
                exact ⟨rfl, HE.out⟩
          · have hlt : ¬ ((i : Int) < (m : Int)) := by omega
            have HBl := hide HL.out.bl
            have XH := hide (heads_n wr (HST.out.below HBl.out))
            go_wp2_with fail
            refine XH.out.mono ?_
            rintro e wz ⟨rfl, hbz⟩
            have HE := hide (HBl.out.trans (hbz.mono HBl.out.size))
            clear hbz XH
            go_wp2_with fail
            go_ret
            exact ⟨rfl, HE.out⟩
      · have hm2 : (30 : Int) < (m : Int) := by omega
        have XH := hide (heads_n w3 (HST.out.below HB3.out))
        go_wp2_with fail
        refine XH.out.mono ?_
        rintro e wz ⟨rfl, hbz⟩
        have HE := hide (HB3.out.trans (hbz.mono HB3.out.size))
        clear hbz XH
        go_wp2_with fail
        go_ret
        exact ⟨rfl, HE.out⟩
end Go.Proofs.YtlcoapignfmgcaaDoor
