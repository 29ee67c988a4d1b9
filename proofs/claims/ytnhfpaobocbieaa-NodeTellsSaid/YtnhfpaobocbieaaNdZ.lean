/- node.checkTree. -/
import Derived.Test.YtnhfpaobocbieaaNdY
import Derived.PlainAid
namespace Go.Proofs.Ytnhfpaobocbieaa
open Go.RowKit
set_option linter.unusedVariables false
def cntD (l : List ND) (s : List ST) : Nat := s.countP fun x => isDir l x.node
theorem cntD_snoc (l : List ND) (s : List ST) (x : ST) : cntD l (s ++ [x]) = cntD l s + (if isDir l x.node = true then 1 else 0) := by
  unfold cntD
  rw [List.countP_append, List.countP_cons, List.countP_nil, Nat.zero_add]
/-- What the visit of checkTree keeps: the count of directories come to. -/
structure JT (B0 pt r : Nat) (L : Option Addr) (n c : Nat) (l : List DV) (s : List ST) (O : Nat → Prop) (V : World) : Prop where
  o : ∀ k, O k ↔ k = r
  rr : Blk V r 3 #[.int .i64 (IntKind.i64.wrap ((1 + cntD (nds l) s : Nat) : Int))]
  f : Blk V pt 24 #[.slice L n c]
  ne : pt ≠ r
  fs : FsR V B0 L n l
  b0 : B0 ≤ r
theorem JT.below {B0 pt r : Nat} {L : Option Addr} {n c : Nat} {l : List DV} {s : List ST} {O : Nat → Prop} {V V' : World} (h : JT B0 pt r L n c l s O V) (hb : Below V.heap.size V V') : JT B0 pt r L n c l s O V' :=
  ⟨h.o, h.rr.below hb h.rr.lt, h.f.below hb h.f.lt, h.ne, h.fs.below (hb.mono (Nat.le_of_lt (Nat.lt_of_le_of_lt h.b0 h.rr.lt))), h.b0⟩
theorem JT.lt {B0 pt r : Nat} {L : Option Addr} {n c : Nat} {l : List DV} {s : List ST} {O : Nat → Prop} {V : World} (h : JT B0 pt r L n c l s O V) : ∀ k, O k → k < V.heap.size := fun k hk => by rw [(h.o k).1 hk]; exact h.rr.lt
theorem JT.step {B0 pt r : Nat} {L : Option Addr} {n c : Nat} {l : List DV} {s s' : List ST} {O : Nat → Prop} {V : World} (J : JT B0 pt r L n c l s O V) (q : Nat) {v : Int} (hv : v = IntKind.i64.wrap ((1 + cntD (nds l) s' : Nat) : Int)) :
    JT B0 pt r L n c l s' O ((V.drewN q).setCell ⟨r, 0, none⟩ (.int .i64 v)) ∧ Kp O O V ((V.drewN q).setCell ⟨r, 0, none⟩ (.int .i64 v)) := by
  have hb : Below B0 V ((V.drewN q).setCell ⟨r, 0, none⟩ (.int .i64 v)) := (bl_drewN (Below.refl B0 V)).setCell (p := ⟨r, 0, none⟩) J.b0 _
  refine ⟨⟨J.o, ?_, (J.f.drewN q).far (p := ⟨r, 0, none⟩) J.ne _, J.ne, J.fs.below hb, J.b0⟩, ⟨hb.os, hb.tape, hb.output, hb.size, fun k hk hn => ⟨?_, hn⟩⟩⟩
  · have := (J.rr.drewN q).set_ 0 (.int .i64 v)
    rw [← hv]
    simpa using this
  · exact Below.heap_setCell (V.drewN q) ⟨r, 0, none⟩ _ k (fun h => hn ((J.o k).2 h))
theorem JT.drawn {B0 pt r : Nat} {L : Option Addr} {n c : Nat} {l : List DV} {s s' : List ST} {O : Nat → Prop} {V : World} (J : JT B0 pt r L n c l s O V) (q : Nat) (hv : cntD (nds l) s' = cntD (nds l) s) :
    JT B0 pt r L n c l s' O (V.drewN q) ∧ Kp O O V (V.drewN q) :=
  ⟨⟨J.o, by rw [hv]; exact J.rr.drewN q, J.f.drewN q, J.ne, J.fs.below (bl_drewN (Below.refl B0 V)), J.b0⟩, ⟨rfl, rfl, rfl, Nat.le_refl _, fun k _ hn => ⟨rfl, hn⟩⟩⟩
theorem wrap_wrap (a : Int) : IntKind.i64.wrap (IntKind.i64.wrap a + 1) = IntKind.i64.wrap (a + 1) := by
  simp only [IntKind.wrap, IntKind.bits, IntKind.signed]
  simp
  omega
set_option maxRecDepth 100000 in
set_option maxHeartbeats 8000000 in
theorem visitT (B0 pt r : Nat) (L : Option Addr) (n c : Nat) (l : List DV) (N : Nat) : Visit (fun _ => True) N n 54 #[.pointer (some ⟨pt, 0, none⟩), .pointer (some ⟨r, 0, none⟩)] (fun _ => true) (JT B0 pt r L n c l) := by
  intro s O V g up x hJ _ _ _ h0 h1 hG hn hC
  obtain ⟨m, hm⟩ : ∃ m : Nat, x.node = (m : Int) := ⟨x.node.toNat, by omega⟩
  have hmn : m < n := by omega
  obtain ⟨a, o, y, hL, hg2, hy, hok, hc⟩ := hJ.fs.at_ hmn
  have HDE : Hid (isDir (nds l) x.node = (y.r.kind == 2)) := hide (by unfold isDir; rw [hm, nds_at hy])
  subst hL
  obtain ⟨xd, xn, xo, xu⟩ := x
  dsimp only at hm hG hC h0 h1 HDE ⊢
  subst hm
  have kf := one_ hJ.f
  have kr := one_ hJ.rr
  have kz := hJ.rr.frozen 0
  have kl := hJ.rr.lt
  have kg := hG.cell 3
  have gl := hG.lt
  have fl := hJ.f.lt
  simp only [List.getElem?_toArray, List.getElem?_cons_zero, List.getElem?_cons_succ] at kg
  have kk := hc.1
  have i1 := fun W => nd_at a o n c m (m : Int) rfl hmn W
  have HJ := hide hJ
  clear hJ hc hok hy hG hn hC
  change Calls Try.prog _ #[.pointer (some ⟨g, 0, none⟩), .pointer (some ⟨pt, 0, none⟩), .pointer (some ⟨r, 0, none⟩)] V _
  by_cases hk : y.r.kind = 2
  · rw [hk] at kk HDE
    have HW : Hid (IntKind.i64.wrap (IntKind.i64.wrap ((1 + cntD (nds l) s : Nat) : Int) + 1) = IntKind.i64.wrap ((1 + cntD (nds l) (s ++ [(⟨xd, xn, (m : Int), xu⟩ : ST)]) : Nat) : Int)) := hide (by
      rw [wrap_wrap, cntD_snoc, if_pos (by rw [HDE.out]; rfl)]
      congr 1)
    obtain ⟨v0, hv0⟩ : ∃ v, IntKind.i64.wrap ((1 + cntD (nds l) s : Nat) : Int) = v := ⟨_, rfl⟩
    rw [hv0] at kr HW
    have HW2 : Hid (wrap64 (v0 + 1) = IntKind.i64.wrap ((1 + cntD (nds l) (s ++ [(⟨xd, xn, (m : Int), xu⟩ : ST)]) : Nat) : Int)) := hide (by rw [← Go.PlainAid.i64_is]; exact HW.out)
    have HV0 := hide hv0
    clear hv0
    go_enter Try.func54, Try.ntmps54
    go_wp2_with fail
    go_quiet (fail)
    go_wp2_with fail
    go_ret
    exact ⟨rfl, O, (JT.step (s' := s ++ [(⟨xd, xn, (m : Int), xu⟩ : ST)]) (v := wrap64 (v0 + 1)) HJ.out _ HW2.out).1, (JT.step (s' := s ++ [(⟨xd, xn, (m : Int), xu⟩ : ST)]) (v := wrap64 (v0 + 1)) HJ.out _ HW2.out).2⟩
  · have hk2 : (y.r.kind == 2) = false := beq_eq_false_iff_ne.2 hk
    have HW : Hid (cntD (nds l) (s ++ [(⟨xd, xn, (m : Int), xu⟩ : ST)]) = cntD (nds l) s) := hide (by
      rw [cntD_snoc, if_neg (by rw [HDE.out, hk2]; simp)]
      rfl)
    go_enter Try.func54, Try.ntmps54
    go_wp2_with fail
    go_quiet (fail)
    go_wp2_with fail
    go_ret
    exact ⟨rfl, O, (JT.drawn (s' := s ++ [(⟨xd, xn, (m : Int), xu⟩ : ST)]) HJ.out _ HW.out).1, (JT.drawn (s' := s ++ [(⟨xd, xn, (m : Int), xu⟩ : ST)]) HJ.out _ HW.out).2⟩
theorem take_countP {α : Type} (p : α → Bool) (l : List α) (i : Nat) (h : i < l.length) : (l.take (i + 1)).countP p = (l.take i).countP p + (if p l[i] = true then 1 else 0) := by
  rw [List.take_succ_eq_append_getElem h, List.countP_append, List.countP_cons, List.countP_nil, Nat.zero_add]
def namedB (n : ND) : Bool := n.kind == 2 && decide (0 < n.links)
theorem seen_true : ∀ (ws : List ST), seen (fun _ => true) ws = ws
  | [] => rfl
  | x :: t => by rw [seen, if_pos rfl, seen_true t]
set_option maxRecDepth 100000 in
set_option maxHeartbeats 8000000 in
theorem tree_any (L : Option Addr) (n c : Nat) (l : List DV) (w : World) (hF : FsR w w.heap.size L n l) (hfew : ∀ x ∈ l, FewN x) (hr : RefsOk (nds l)) (hD : Deep (nds l) n 0) (hn : 0 < n) (h60 : n ≤ 60) :
    Calls Try.prog 39 #[.agg #[.slice L n c]] w fun e w' => e = .returned (.bool (treeB (nds l))) ∧ Below w.heap.size w w' := by
  have hl := hF.len
  have HX : Hid (Blk (w.alloc (.cells #[.slice L n c] 24)) w.heap.size 24 #[.slice L n c]) := hide (Blk.new w _ _)
  have HB : Hid (Below w.heap.size w (w.alloc (.cells #[.slice L n c] 24))) := hide (on_alloc _ _)
  have HWK := hide (fun (V : World) (r : Nat) (J : JT w.heap.size w.heap.size r L n c l [] (fun k => k = r) V) (h0 : ∀ k, k < w.heap.size → ¬ k = r) (hb0 : w.heap.size ≤ V.heap.size) =>
    walk_any (c := c) (enters_of Try.func54 (by kernel_rfl) rfl) hr hfew (visitT w.heap.size w.heap.size r L n c l _) (fun s O V V' h hb => h.below hb) (fun s O V h => h.lt) (fun k => k = r) V J.fs h0 hb0 hD hn (Nat.le_refl _) (fun _ _ => trivial) J)
  have HF := hide hF
  have HL := hide hl
  clear hF hfew hr hD hl
  obtain ⟨R, hR⟩ : ∃ R, treeB (nds l) = R := ⟨_, rfl⟩
  rw [hR]
  have HR := hide hR
  clear hR
  go_enter Try.func39, Try.ntmps39
  have k0 := one_ HX.out
  go_wp2_with fail
  clear k0
  go_loopw [3, 10] (fun u3 u10 wx => ∃ i m : Nat, i ≤ n ∧ m ≤ i ∧ u3 = .int .i64 (m : Int) ∧ u10 = .int .i64 (i : Int) ∧ Hid (m = ((nds l).take i).countP namedB) ∧ Hid (Below w.heap.size w wx) ∧ Hid (Blk wx w.heap.size 24 #[.slice L n c])) (fun _ i _ => n - (intOf i).toNat)
  case atStart => exact ⟨0, 0, Nat.zero_le _, Nat.le_refl _, rfl, rfl, hide rfl, HB, HX⟩
  case round =>
    clear HX HB
    obtain ⟨i, m, hi, hm, rfl, rfl, HM, HB, HX⟩ := hrel
    by_cases hin : i < n
    · have hlt : (i : Int) < (n : Int) := by omega
      obtain ⟨g, o, x, rfl, hg, hx, hok, hc⟩ := HF.out.at_ hin
      obtain ⟨d0, d1, d2, d3, d4, d5⟩ := NdCells.below hc hg HB.out
      have h2 : g < wr.heap.size := Nat.lt_of_lt_of_le hg HB.out.size
      have i1 := fun W => nd_at g o n c i (i : Int) rfl hin W
      have HST : Hid (((nds l).take (i + 1)).countP namedB = m + (if namedB x.r = true then 1 else 0)) := hide (by
        have hli : i < (nds l).length := by rw [nds_length, HL.out]; exact hin
        rw [take_countP _ _ _ hli, ← HM.out]
        have e : (nds l)[i] = x.r := by
          have : (nds l)[i]? = some x.r := by unfold nds; rw [List.getElem?_map, hx]; rfl
          exact (List.getElem?_eq_some_iff.1 this).2
        rw [e])
      have HX2 := hide (HX.out.alloc (.cells #[Value.int .i64 x.r.kind, .int .i64 x.r.mode, .int .i64 x.r.links, .slice x.D x.dn x.dc, .slice x.M x.mn x.mc, .string ⟨x.r.to.toArray⟩] 49))
      have HB2 := hide (HB.out.alloc HB.out.size (.cells #[Value.int .i64 x.r.kind, .int .i64 x.r.mode, .int .i64 x.r.links, .slice x.D x.dn x.dc, .slice x.M x.mn x.mc, .string ⟨x.r.to.toArray⟩] 49))
      have HBX : Hid (Blk (wr.alloc (.cells #[Value.int .i64 x.r.kind, .int .i64 x.r.mode, .int .i64 x.r.links, .slice x.D x.dn x.dc, .slice x.M x.mn x.mc, .string ⟨x.r.to.toArray⟩] 49)) wr.heap.size 49 #[Value.int .i64 x.r.kind, .int .i64 x.r.mode, .int .i64 x.r.links, .slice x.D x.dn x.dc, .slice x.M x.mn x.mc, .string ⟨x.r.to.toArray⟩]) := hide (Blk.new wr _ _)
      clear hx hok hc
      obtain ⟨WC, hWC⟩ : ∃ W, wr.alloc (.cells #[Value.int .i64 x.r.kind, .int .i64 x.r.mode, .int .i64 x.r.links, .slice x.D x.dn x.dc, .slice x.M x.mn x.mc, .string ⟨x.r.to.toArray⟩] 49) = W := ⟨_, rfl⟩
      rw [hWC] at HBX HX2 HB2
      obtain ⟨e0, e1, e2, e3, e4, e5⟩ := six HBX.out
      have e9 := HBX.out.lt
      by_cases c1 : x.r.kind = 2
      · have c1b : (x.r.kind == 2) = true := by rw [c1]; rfl
        by_cases c2 : 0 < x.r.links
        · have HS2 : Hid (m + 1 = ((nds l).take (i + 1)).countP namedB) := hide (by rw [HST.out, if_pos (by simp [namedB, c1, c2])])
          clear c1
          go_wp2_with fail
          go_roundw
          case rel => exact ⟨i + 1, m + 1, by omega, by omega, by go_num, by go_num, HS2, HB2, HX2⟩
          case measure => simp [intOf]; omega
        · have HS2 : Hid (m = ((nds l).take (i + 1)).countP namedB) := hide (by rw [HST.out, if_neg (by simp [namedB, c2])]; rfl)
          clear c1
          go_wp2_with fail
          go_roundw
          case rel => exact ⟨i + 1, m, by omega, by omega, by go_num, by go_num, HS2, HB2, HX2⟩
          case measure => simp [intOf]; omega
      · have c1b : (x.r.kind == 2) = false := beq_eq_false_iff_ne.2 c1
        have HS2 : Hid (m = ((nds l).take (i + 1)).countP namedB) := hide (by rw [HST.out, if_neg (by simp [namedB, c1])]; rfl)
        clear c1
        go_wp2_with fail
        go_roundw
        case rel => exact ⟨i + 1, m, by omega, by omega, by go_num, by go_num, HS2, HB2, HX2⟩
        case measure => simp [intOf]; omega
    · have hlt : ¬ ((i : Int) < (n : Int)) := by omega
      obtain rfl : i = n := by omega
      have HN : Hid (m = named (nds l)) := hide (by rw [HM.out, List.take_of_length_le (by rw [nds_length, HL.out]; omega)]; rfl)
      have k0 := one_ HX.out
      obtain ⟨WC, hWC⟩ : ∃ W, wr.alloc (.cells #[Value.int .i64 1] 3) = W := ⟨_, rfl⟩
      have bC : Below wr.heap.size wr WC := by rw [← hWC]; exact on_alloc _ _
      have kC : Blk WC wr.heap.size 3 #[Value.int .i64 1] := by rw [← hWC]; exact Blk.new wr _ _
      have kX : Blk WC w.heap.size 24 #[.slice L i c] := HX.out.below bC HX.out.lt
      have bW : Below w.heap.size w WC := HB.out.trans (bC.mono HB.out.size)
      have X := hide (HWK.out WC wr.heap.size ⟨fun k => Iff.rfl, kC, kX, fun h => by have := HX.out.lt; omega, HF.out.below bW, HB.out.size⟩ (fun k hk h => by have := HB.out.size; omega) bW.size)
      have HBW := hide bW
      have k1 := one_ kX
      have kl := kC.lt
      clear HWK bC kC kX bW
      go_wp2_with fail
      refine X.out.mono ?_
      rintro e w5 ⟨rfl, O5, J5, K5⟩
      rw [seen_true] at J5
      have kr := one_ J5.rr
      have HB5 : Hid (Below w.heap.size w w5) := hide (HBW.out.trans (K5.below (fun k hk h => by have := HB.out.size; omega) HBW.out.size))
      have HT : Hid (R = (IntKind.i64.wrap ((1 + cntD (nds l) (wk (nds l) i [] 0) : Nat) : Int) == (m : Int))) := hide (by
        rw [← HR.out]
        unfold treeB reached cntD
        rw [nds_length, HL.out, ← HN.out]
        rfl)
      obtain ⟨v0, hv0⟩ : ∃ v, IntKind.i64.wrap ((1 + cntD (nds l) (wk (nds l) i [] 0) : Nat) : Int) = v := ⟨_, rfl⟩
      rw [hv0] at kr HT
      have hT := HT.out
      subst hT
      clear J5 K5 X hv0 HT HR
      go_wp2_with fail
      go_ret
      exact ⟨rfl, HB5.out⟩
end Go.Proofs.Ytnhfpaobocbieaa
