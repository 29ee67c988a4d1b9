/- proto.Encode: a valid request is written. -/
import Derived.Test.YtedacfjkbfgikaaPrH
namespace Go.Proofs.Ytedacfjkbfgikaa
open Go.RowKit
set_option linter.unusedVariables false
section
variable {P : Program} {ops : Array Oper} {Q : Exit → Act → World → Prop} {md : Region.Mode} {S : World → Prop} {L : Nat}
/-- Two operations may come up: either order. -/
theorem wpAnyM_two {l : List Oper} {i j : Nat} {o p : Oper} {fuel : Nat} {listed : Array Bool} {a : Act} {w : World} (hr : Region.ready md l.toArray listed = [i, j]) (ho : l[i]? = some o) (hi' : l.toArray[i]? = l[i]?) (hp : l[j]? = some p) (hj' : l.toArray[j]? = l[j]?)
    (h1 : ∀ K' : Act → World → Prop, Shut (∀ a w, (i ≠ L → S w) → wpAnyM P md l.toArray Q S L fuel (listed.setIfInBounds i true) a w → K' a w) → if Region.wanted o (yielded l.toArray a.tmps) = true then Oper.wp P o a w K' Q else K' (a.put o.dst undef) w)
    (h2 : ∀ K' : Act → World → Prop, Shut (∀ a w, (j ≠ L → S w) → wpAnyM P md l.toArray Q S L fuel (listed.setIfInBounds j true) a w → K' a w) → if Region.wanted p (yielded l.toArray a.tmps) = true then Oper.wp P p a w K' Q else K' (a.put p.dst undef) w) :
    wpAnyM P md l.toArray Q S L (fuel + 1) listed a w := by
  refine ⟨fun h0 => (by rw [hr] at h0; cases h0), fun k hk => ?_⟩
  rw [hr] at hk
  rcases List.mem_cons.1 hk with rfl | hk
  · exact wpOp_step (hi'.trans ho) (fun K' hK => h1 K' (fun a w hS hW => hK a w ⟨hS, hW⟩))
  · obtain rfl : k = j := by simpa using hk
    exact wpOp_step (hj'.trans hp) (fun K' hK => h2 K' (fun a w hS hW => hK a w ⟨hS, hW⟩))
end
def WJ (w0 : World) (B g gr : Nat) (r : RQ) (bs : LB) (w : World) : Prop := OutAt g B bs w ∧ RqAt B gr r w ∧ B ≤ g ∧ B ≤ w.heap.size ∧ Below B w0 w
theorem WJ.below {w0 : World} {B g gr : Nat} {r : RQ} {bs : LB} {w w' : World} (h : WJ w0 B g gr r bs w) (hb : Below w.heap.size w w') : WJ w0 B g gr r bs w' :=
  ⟨h.1.below hb, h.2.1.keep fun x hx => hb.block x (Nat.lt_of_lt_of_le hx h.2.2.2.1), h.2.2.1, Nat.le_trans h.2.2.2.1 hb.size, h.2.2.2.2.trans (hb.mono h.2.2.2.1)⟩
theorem WJ.drew {w0 : World} {B g gr : Nat} {r : RQ} {bs : LB} {w : World} (h : WJ w0 B g gr r bs w) : WJ w0 B g gr r bs w.drew :=
  ⟨h.1, h.2.1, h.2.2.1, h.2.2.2.1, h.2.2.2.2.drew⟩
theorem WJ.row {w0 : World} {B g gr gf : Nat} {r : RQ} {bs : LB} {w : World} {cs : Array Value} (h : WJ w0 B g gr r bs w) (hk : Blk w gf 62 cs) : WI gf cs w0 B g gr r bs w :=
  ⟨h.1, h.2.1, h.2.2.1, h.2.2.2.1, h.2.2.2.2, hk⟩
theorem WJ.op {w0 : World} {B g gr : Nat} {r : RQ} {bs : LB} {w : World} (h : WJ w0 B g gr r bs w) : w.cell? ⟨gr, 0, none⟩ = some (.int .i64 r.op) := by
  obtain ⟨D, dn, dc, A, an, ac, E, en, ec, F, fn, fc, h1, -⟩ := h.2.1
  exact h1.cell 0
set_option maxRecDepth 100000 in
set_option maxHeartbeats 8000000 in
theorem enc_yes (r : RQ) (D A E F : Option Addr) (dn dc an ac en ec fn fc : Nat) (w : World) (h3 : Reads w w.heap.size 1 D dn (bv r.d)) (h4 : Reads w w.heap.size 1 A an (svs r.args)) (h5 : Reads w w.heap.size 1 E en (svs r.env)) (h6 : Reads w w.heap.size 1 F fn (ivs r.fds))
    (ho : i64ok r.op) (hn : dn ≤ 100000 ∧ an ≤ 1000 ∧ en ≤ 1000 ∧ fn ≤ 100000) (hok : r.ok = true) :
    Calls Try.prog 9 #[r.v D A E F dn dc an ac en ec fn fc] w fun e w' => ∃ A' n' c', e = .returned (.tuple #[.slice A' n' c', .int .i64 0]) ∧ OwB w.heap.size w' A' n' c' (encQ r) ∧ Below w.heap.size w w' := by
  have hb := (Below.refl w.heap.size w).alloc (Nat.le_refl _) (.cells (qcs r D A E F dn dc an ac en ec fn fc) 26)
  have hk := Blk.new w 26 (qcs r D A E F dn dc an ac en ec fn fc)
  have XC := hide (check_any r D A E F dn dc an ac en ec fn fc (w.alloc (.cells (qcs r D A E F dn dc an ac en ec fn fc) 26)) ((h3.below hb).more hb.size) ((h4.below hb).more hb.size) ((h5.below hb).more hb.size) ((h6.below hb).more hb.size) ho hn)
  rw [hok] at XC
  have HP := hide (ok_parts hok)
  have HS := hide (ok_small hok)
  have hy := op_byte HP.out.1
  have HR0 : Hid (∀ B W, Below w.heap.size w W → w.heap.size < B → Blk W w.heap.size 26 (qcs r D A E F dn dc an ac en ec fn fc) → RqAt B w.heap.size r W) := hide (fun B W hW hB hK => ⟨D, dn, dc, A, an, ac, E, en, ec, F, fn, fc, hK, hB, (h3.below hW).more (by omega), (h4.below hW).more (by omega), (h5.below hW).more (by omega), (h6.below hW).more (by omega)⟩)
  have XQ := hide (fun V => req_look2 r.op V ho.1 ho.2)
  have HE : Hid (encQ r = [opB r.op] ++ catP (encS (reqU r.op).1 r)) := hide rfl
  have XE := hide (fun gf w0 B g (W : World) h => eachQ_any gf w0 B g w.heap.size r (reqU r.op).1 [opB r.op] (by simp) HS.out W h)
  generalize (reqU r.op).1 = u at *
  have HK := hide hk
  have HB := hide hb
  have hs := hb.size
  have hlt := hk.lt
  unfold qcs at hb hk XC
  unfold RQ.v at XC ⊢
  obtain ⟨x0, x1, x2, x3, x4, x5, x6, x7, x8, x9⟩ := blk10 hk
  clear h3 h4 h5 h6 hb hk
  generalize opB r.op = ob at *
  go_enter Try.func9, Try.ntmps9
  go_wp2_with fail
  refine XC.out.mono ?_
  rintro e w1 ⟨rfl, hb1⟩
  have HB1 := hide (below_more HB.out (Nat.le_refl _) hb1)
  have HK1 := hide (HK.out.below hb1 HK.out.lt)
  have hs1 := HB1.out.size
  have hl1 := HK1.out.lt
  have k0 := HK1.out.cell 0
  unfold qcs at k0
  simp only [List.getElem?_toArray, List.getElem?_cons_zero] at k0
  have HBo := Blk.new w1 5 #[.int .u8 ((ob.toNat : Nat) : Int)]
  have HBg := Blk.new (w1.alloc (.cells #[.int .u8 ((ob.toNat : Nat) : Int)] 5)) 55 #[.slice (some ⟨w1.heap.size, 0, none⟩) 1 1]
  have hs3 : (w1.alloc (.cells #[.int .u8 ((ob.toNat : Nat) : Int)] 5)).heap.size = w1.heap.size + 1 := by simp
  rw [hs3] at HBg
  have HW3 : Hid (Below w1.heap.size w1 ((w1.alloc (.cells #[.int .u8 ((ob.toNat : Nat) : Int)] 5)).alloc (.cells #[.slice (some ⟨w1.heap.size, 0, none⟩) 1 1] 55))) := hide (((Below.refl _ w1).alloc (Nat.le_refl _) _).alloc (by simp) _)
  have HK3 := hide ((HK1.out.alloc (.cells #[.int .u8 ((ob.toNat : Nat) : Int)] 5)).alloc (.cells #[.slice (some ⟨w1.heap.size, 0, none⟩) 1 1] 55))
  have HO3 := hide (HBo.alloc (.cells #[.slice (some ⟨w1.heap.size, 0, none⟩) 1 1] 55))
  have HG3 := hide HBg
  clear HBo HBg XC
  go_upto_region 4 with (fail)
  have HJ : Hid (WJ w1 w1.heap.size (w1.heap.size + 1) w.heap.size r [ob] ((w1.alloc (.cells #[.int .u8 ((ob.toNat : Nat) : Int)] 5)).alloc (.cells #[.slice (some ⟨w1.heap.size, 0, none⟩) 1 1] 55))) := hide
    ⟨⟨some ⟨w1.heap.size, 0, none⟩, 1, 1, HG3.out, HO3.out.own (base := w1.heap.size) (cap := 1) (Nat.le_refl _) (by unfold maxLen; omega) rfl⟩,
      HR0.out _ _ (HB1.out.trans (HW3.out.mono HB1.out.size)) hl1 HK3.out, by omega, HW3.out.size, HW3.out⟩
  clear HG3 HO3 HK3 HW3 hs3 k0 hb1 HR0 x0 x1 x2 x3 x4 x5 x6 x7 x8 x9 HK HB HK1
  generalize (w1.alloc (.cells #[.int .u8 ((ob.toNat : Nat) : Int)] 5)).alloc (.cells #[.slice (some ⟨w1.heap.size, 0, none⟩) 1 1] 55) = w3 at *
  have k3 := HJ.out.op
  go_cut [] (fun wx => Hid (OutAt (w1.heap.size + 1) w1.heap.size (encQ r) wx) ∧ Hid (Below w1.heap.size w1 wx))
  case first =>
    refine wp_region_M (fun V => V.cell? ⟨w.heap.size, 0, none⟩ = some (.int .i64 r.op)) 23 rfl k3 (fun hHeld => ?_)
    refine wpAnyM_take (i := 1) (v := ?_) rfl rfl (by kernel_rfl) (fun _ _ _ h => h) (Or.inl ⟨by rfl, ?_⟩) (by assumption) ?_
    rotate_left
    · (intro V hV; (try dsimp only at hV); go_simp; with_reducible rfl)
    try simp only [Act.put, List.setIfInBounds_toArray, List.set_cons_zero, List.set_cons_succ]
    refine wpAnyM_take (i := 2) (v := ?_) rfl rfl (by kernel_rfl) (fun _ _ _ h => h) (Or.inl ⟨by rfl, ?_⟩) (by assumption) ?_
    rotate_left
    · (intro V hV; (try dsimp only at hV); go_simp; with_reducible rfl)
    try simp only [Act.put, List.setIfInBounds_toArray, List.set_cons_zero, List.set_cons_succ]
    refine wpAnyM_take (i := 4) (v := ?_) rfl rfl (by kernel_rfl) (fun _ _ _ h => h) (Or.inl ⟨by rfl, ?_⟩) (by assumption) ?_
    rotate_left
    · (intro V hV; (try dsimp only at hV); go_simp; with_reducible rfl)
    try simp only [Act.put, List.setIfInBounds_toArray, List.set_cons_zero, List.set_cons_succ]
    refine wpAnyM_take (i := 5) (v := ?_) rfl rfl (by kernel_rfl) (fun _ _ _ h => h) (Or.inl ⟨by rfl, ?_⟩) (by assumption) ?_
    rotate_left
    · (intro V hV; (try dsimp only at hV); go_simp; with_reducible rfl)
    try simp only [Act.put, List.setIfInBounds_toArray, List.set_cons_zero, List.set_cons_succ]
    refine wpAnyM_take (i := 6) (v := ?_) rfl rfl (by kernel_rfl) (fun _ _ _ h => h) (Or.inl ⟨by rfl, ?_⟩) (by assumption) ?_
    rotate_left
    · (intro V hV; (try dsimp only at hV); go_simp; with_reducible rfl)
    try simp only [Act.put, List.setIfInBounds_toArray, List.set_cons_zero, List.set_cons_succ]
    refine wpAnyM_take (i := 7) (v := ?_) rfl rfl (by kernel_rfl) (fun _ _ _ h => h) (Or.inl ⟨by rfl, ?_⟩) (by assumption) ?_
    rotate_left
    · (intro V hV; (try dsimp only at hV); go_simp; with_reducible rfl)
    try simp only [Act.put, List.setIfInBounds_toArray, List.set_cons_zero, List.set_cons_succ]
    refine wpAnyM_take (i := 8) (v := ?_) rfl rfl (by kernel_rfl) (fun _ _ _ h => h) (Or.inl ⟨by rfl, ?_⟩) (by assumption) ?_
    rotate_left
    · (intro V hV; (try dsimp only at hV); go_simp; with_reducible rfl)
    try simp only [Act.put, List.setIfInBounds_toArray, List.set_cons_zero, List.set_cons_succ]
    refine wpAnyM_take (i := 9) (v := ?_) rfl rfl (by kernel_rfl) (fun _ _ _ h => h) (Or.inl ⟨by rfl, ?_⟩) (by assumption) ?_
    rotate_left
    · (intro V hV; (try dsimp only at hV); go_simp; with_reducible rfl)
    try simp only [Act.put, List.setIfInBounds_toArray, List.set_cons_zero, List.set_cons_succ]
    refine wpAnyM_take (i := 10) (v := ?_) rfl rfl (by kernel_rfl) (fun _ _ _ h => h) (Or.inl ⟨by rfl, ?_⟩) (by assumption) ?_
    rotate_left
    · (intro V hV; (try dsimp only at hV); go_simp; with_reducible rfl)
    try simp only [Act.put, List.setIfInBounds_toArray, List.set_cons_zero, List.set_cons_succ]
    refine wpAnyM_take (i := 11) (v := ?_) rfl rfl (by kernel_rfl) (fun _ _ _ h => h) (Or.inl ⟨by rfl, ?_⟩) (by assumption) ?_
    rotate_left
    · (intro V hV; (try dsimp only at hV); go_simp; with_reducible rfl)
    try simp only [Act.put, List.setIfInBounds_toArray, List.set_cons_zero, List.set_cons_succ]
    refine wpAnyM_take (i := 12) (v := ?_) rfl rfl (by kernel_rfl) (fun _ _ _ h => h) (Or.inl ⟨by rfl, ?_⟩) (by assumption) ?_
    rotate_left
    · (intro V hV; (try dsimp only at hV); go_simp; with_reducible rfl)
    try simp only [Act.put, List.setIfInBounds_toArray, List.set_cons_zero, List.set_cons_succ]
    refine wpAnyM_take (i := 13) (v := ?_) rfl rfl (by kernel_rfl) (fun _ _ _ h => h) (Or.inl ⟨by rfl, ?_⟩) (by assumption) ?_
    rotate_left
    · (intro V hV; (try dsimp only at hV); go_simp; with_reducible rfl)
    try simp only [Act.put, List.setIfInBounds_toArray, List.set_cons_zero, List.set_cons_succ]
    refine wpAnyM_take (i := 14) (v := ?_) rfl rfl (by kernel_rfl) (fun _ _ _ h => h) (Or.inl ⟨by rfl, ?_⟩) (by assumption) ?_
    rotate_left
    · (intro V hV; (try dsimp only at hV); go_simp; with_reducible rfl)
    try simp only [Act.put, List.setIfInBounds_toArray, List.set_cons_zero, List.set_cons_succ]
    refine wpAnyM_take (i := 15) (v := ?_) rfl rfl (by kernel_rfl) (fun _ _ _ h => h) (Or.inl ⟨by rfl, ?_⟩) (by assumption) ?_
    rotate_left
    · (intro V hV; (try dsimp only at hV); go_simp; with_reducible rfl)
    try simp only [Act.put, List.setIfInBounds_toArray, List.set_cons_zero, List.set_cons_succ]
    refine wpAnyM_take (i := 16) (v := ?_) rfl rfl (by kernel_rfl) (fun _ _ _ h => h) (Or.inl ⟨by rfl, ?_⟩) (by assumption) ?_
    rotate_left
    · (intro V hV; (try dsimp only at hV); go_simp; with_reducible rfl)
    try simp only [Act.put, List.setIfInBounds_toArray, List.set_cons_zero, List.set_cons_succ]
    refine wpAnyM_take (i := 17) (v := ?_) rfl rfl (by kernel_rfl) (fun _ _ _ h => h) (Or.inl ⟨by rfl, ?_⟩) (by assumption) ?_
    rotate_left
    · (intro V hV; (try dsimp only at hV); go_simp; with_reducible rfl)
    try simp only [Act.put, List.setIfInBounds_toArray, List.set_cons_zero, List.set_cons_succ]
    refine wpAnyM_take (i := 18) (v := ?_) rfl rfl (by kernel_rfl) (fun _ _ _ h => h) (Or.inl ⟨by rfl, ?_⟩) (by assumption) ?_
    rotate_left
    · (intro V hV; (try dsimp only at hV); go_simp; with_reducible rfl)
    try simp only [Act.put, List.setIfInBounds_toArray, List.set_cons_zero, List.set_cons_succ]
    refine wpAnyM_take (i := 19) (v := ?_) rfl rfl (by kernel_rfl) (fun _ _ _ h => h) (Or.inl ⟨by rfl, ?_⟩) (by assumption) ?_
    rotate_left
    · (intro V hV; (try dsimp only at hV); go_simp; with_reducible rfl)
    try simp only [Act.put, List.setIfInBounds_toArray, List.set_cons_zero, List.set_cons_succ]
    refine wpAnyM_take (i := 20) (v := ?_) rfl rfl (by kernel_rfl) (fun _ _ _ h => h) (Or.inl ⟨by rfl, ?_⟩) (by assumption) ?_
    rotate_left
    · (intro V hV; (try dsimp only at hV); go_simp; with_reducible rfl)
    try simp only [Act.put, List.setIfInBounds_toArray, List.set_cons_zero, List.set_cons_succ]
    refine wpAnyM_take (i := 21) (v := ?_) rfl rfl (by kernel_rfl) (fun _ _ _ h => h) (Or.inl ⟨by rfl, ?_⟩) (by assumption) ?_
    rotate_left
    · (intro V hV; (try dsimp only at hV); go_simp; with_reducible rfl)
    try simp only [Act.put, List.setIfInBounds_toArray, List.set_cons_zero, List.set_cons_succ]
    have HJd := hide HJ.out.drew
    refine wpAnyM_two (i := 0) (j := 22) (by kernel_rfl) rfl rfl rfl rfl (fun K hK => ?_) (fun K hK => ?_)
    · go_simp
      refine (XQ.out _).mono ?_
      rintro e w4 ⟨rfl, hb4, hl4, hl4o⟩
      rw [show w3.drew.heap.size = w3.heap.size from rfl] at hl4 hl4o
      have HJ4 := hide (HJd.out.below hb4)
      refine hK.out _ _ (fun _ => HJ4.out.op) ?_
      clear hK K hHeld hb4
      simp only [List.setIfInBounds_toArray]
      refine wpAnyM_two (i := 3) (j := 22) (by kernel_rfl) rfl rfl rfl rfl (fun K hK => ?_) (fun K hK => ?_)
      · go_simp
        refine hK.out _ _ (fun _ => HJ4.out.op) ?_
        clear hK K hl4 hl4o
        simp only [List.setIfInBounds_toArray]
        refine wpAnyM_step (i := 22) (by kernel_rfl) rfl rfl (fun K hK => ?_)
        go_simp
        have HJ5 := hide (HJ4.out.below ((Below.refl _ _).alloc (Nat.le_refl _) (.cells (rowQ (w1.heap.size + 1) w.heap.size) 62)))
        have X5 := hide (XE.out _ _ _ _ _ (HJ5.out.row (Blk.new w4 62 (rowQ (w1.heap.size + 1) w.heap.size))))
        refine hK.out _ _ (fun _ => HJ5.out.op) ?_
        clear hK K HJ5
        simp only [List.setIfInBounds_toArray]
        refine wpAnyM_step (i := 23) (by kernel_rfl) rfl rfl (fun K hK => ?_)
        go_simp
        refine X5.out.mono ?_
        rintro e w6 ⟨rfl, hw6⟩
        refine hK.out _ _ (fun h => absurd rfl h) ?_
        refine wpAnyM_done (by kernel_rfl) ?_ _
        go_wp2_with fail
        go_meet
        exact ⟨by rw [HE.out]; exact hw6.1, hw6.2.2.2.2.1⟩
      · go_simp
        have HJ5 := hide (HJ4.out.below ((Below.refl _ _).alloc (Nat.le_refl _) (.cells (rowQ (w1.heap.size + 1) w.heap.size) 62)))
        have X5 := hide (XE.out _ _ _ _ _ (HJ5.out.row (Blk.new w4 62 (rowQ (w1.heap.size + 1) w.heap.size))))
        have hl5 := hl4o (.cells (rowQ (w1.heap.size + 1) w.heap.size) 62)
        unfold rowQ capsQ at hl5
        refine hK.out _ _ (fun _ => HJ5.out.op) ?_
        clear hK K hl4 hl4o
        simp only [List.setIfInBounds_toArray]
        refine wpAnyM_step (i := 3) (by kernel_rfl) rfl rfl (fun K hK => ?_)
        go_simp
        refine hK.out _ _ (fun _ => HJ5.out.op) ?_
        clear hK K HJ5 hl5
        simp only [List.setIfInBounds_toArray]
        refine wpAnyM_step (i := 23) (by kernel_rfl) rfl rfl (fun K hK => ?_)
        go_simp
        refine X5.out.mono ?_
        rintro e w6 ⟨rfl, hw6⟩
        refine hK.out _ _ (fun h => absurd rfl h) ?_
        refine wpAnyM_done (by kernel_rfl) ?_ _
        go_wp2_with fail
        go_meet
        exact ⟨by rw [HE.out]; exact hw6.1, hw6.2.2.2.2.1⟩
    · go_simp
      have HJ4 := hide (HJd.out.below ((Below.refl _ _).alloc (Nat.le_refl _) (.cells (rowQ (w1.heap.size + 1) w.heap.size) 62)))
      have HN4 := hide (Blk.new w3.drew 62 (rowQ (w1.heap.size + 1) w.heap.size))
      have XQ4 := hide (XQ.out (w3.drew.alloc (.cells (rowQ (w1.heap.size + 1) w.heap.size) 62)))
      refine hK.out _ _ (fun _ => HJ4.out.op) ?_
      clear hK K hHeld
      simp only [List.setIfInBounds_toArray]
      refine wpAnyM_step (i := 0) (by kernel_rfl) rfl rfl (fun K hK => ?_)
      go_simp
      refine XQ4.out.mono ?_
      rintro e w5 ⟨rfl, hb5, hl5, hl5o⟩
      rw [show (w3.drew.alloc (.cells (rowQ (w1.heap.size + 1) w.heap.size) 62)).heap.size = w3.heap.size + 1 by simp] at hl5
      have HJ5 := hide (HJ4.out.below hb5)
      have X5 := hide (XE.out _ _ _ _ _ (HJ5.out.row (HN4.out.below hb5 HN4.out.lt)))
      refine hK.out _ _ (fun _ => HJ5.out.op) ?_
      clear hK K HJ4 HN4 XQ4 hb5 hl5o
      simp only [List.setIfInBounds_toArray]
      refine wpAnyM_step (i := 3) (by kernel_rfl) rfl rfl (fun K hK => ?_)
      go_simp
      refine hK.out _ _ (fun _ => HJ5.out.op) ?_
      clear hK K HJ5 hl5
      simp only [List.setIfInBounds_toArray]
      refine wpAnyM_step (i := 23) (by kernel_rfl) rfl rfl (fun K hK => ?_)
      go_simp
      refine X5.out.mono ?_
      rintro e w6 ⟨rfl, hw6⟩
      refine hK.out _ _ (fun h => absurd rfl h) ?_
      refine wpAnyM_done (by kernel_rfl) ?_ _
      go_wp2_with fail
      go_meet
      exact ⟨by rw [HE.out]; exact hw6.1, hw6.2.2.2.2.1⟩
  case rest =>
    obtain ⟨HO, HB6⟩ := hcut
    obtain ⟨A9, n9, c9, hk9, ho9⟩ := HO.out
    have k9 := hk9.cell 0
    simp only [List.getElem?_toArray, List.getElem?_cons_zero] at k9
    have HO9 := hide ho9
    clear hk9 ho9 HO HJ k3
    go_wp2_with fail
    refine bodyPost_ret (v := .tuple #[.slice A9 n9 c9, .int .i64 0]) (by simp only [results, Try.results9]; go_simp) rfl ⟨A9, n9, c9, rfl, own_more HO9.out hs1, HB1.out.trans (HB6.out.mono HB1.out.size)⟩
end Go.Proofs.Ytedacfjkbfgikaa
