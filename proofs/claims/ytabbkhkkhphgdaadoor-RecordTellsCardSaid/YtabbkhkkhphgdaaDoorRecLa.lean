/- The law RecordApart. -/
import Derived.Test.YtabbkhkkhphgdaaDoorRecI
namespace Go.Proofs.YtabbkhkkhphgdaaDoor
open Go.RowKit
set_option linter.unusedVariables false
theorem enc_same {r s : Rec} (hr : validP r = true) (hs : validP s = true) : (encP r == encP s) = sameP r s := by
  cases h : sameP r s with
  | true => rw [(same_iff r s).1 h]; simp
  | false => exact beq_eq_false_iff_ne.2 (fun e => by rw [(same_iff r s).2 (enc_inj hr hs e)] at h; cases h)
set_option maxRecDepth 100000 in
set_option maxHeartbeats 16000000 in
theorem apart_any (r s : Rec) (A A2 : Option Addr) (n c n2 c2 : Nat) (hd : r.dig.length = n) (hd2 : s.dig.length = n2) (w : World) (hS : Std w) (hr : Rd w A n r.dig) (hs : Rd w A2 n2 s.dig) :
    Calls Tryd.prog 5 #[Rec.v r A n c, Rec.v s A2 n2 c2] w fun e w' => e = .returned (.bool true) ∧ Below w.heap.size w w' := by
  have XF := hide (fun W => few_any r A n c hd W)
  have XF2 := hide (fun W => few_any s A2 n2 c2 hd2 W)
  have XC := hide (fun W h => chk_any r A n c hd W h)
  have XC2 := hide (fun W h => chk_any s A2 n2 c2 hd2 W h)
  have XE := hide (fun W hV h hR => enc_ok r A n c hd W h hR hV)
  have XE2 := hide (fun W hV h hR => enc_ok s A2 n2 c2 hd2 W h hR hV)
  have XS := hide (fun W h1 h2 => rsame_any r s A A2 n c n2 c2 W h1 h2)
  have HEQ := hide (fun hr hs => enc_same (r := r) (s := s) hr hs)
  generalize fewP r = F at *
  generalize fewP s = F2 at *
  generalize validP r = V at *
  generalize validP s = V2 at *
  generalize sameP r s = T at *
  generalize encP r = E at *
  generalize encP s = E2 at *
  obtain ⟨q, op, p, g, d, al⟩ := r
  obtain ⟨q2, op2, p2, g2, d2, al2⟩ := s
  unfold Rec.v at *
  dsimp only at *
  have hb := (Below.refl w.heap.size w).alloc (Nat.le_refl _) (.cells #[.int .i64 q, .int .i64 op, .string ⟨p.toArray⟩, .string ⟨g.toArray⟩, .slice A n c, .bool al] 24)
  have hb2 := hb.alloc (by simp) (.cells #[.int .i64 q2, .int .i64 op2, .string ⟨p2.toArray⟩, .string ⟨g2.toArray⟩, .slice A2 n2 c2, .bool al2] 24)
  have HB := hide hb2
  have HS := hide (hS.below hb2)
  have HR := hide (rb hr hb2)
  have HQ := hide (rb hs hb2)
  have HX := hide ((Blk.new w 24 #[.int .i64 q, .int .i64 op, .string ⟨p.toArray⟩, .string ⟨g.toArray⟩, .slice A n c, .bool al]).alloc (.cells #[.int .i64 q2, .int .i64 op2, .string ⟨p2.toArray⟩, .string ⟨g2.toArray⟩, .slice A2 n2 c2, .bool al2] 24))
  have HY : Hid (Blk ((w.alloc (.cells #[.int .i64 q, .int .i64 op, .string ⟨p.toArray⟩, .string ⟨g.toArray⟩, .slice A n c, .bool al] 24)).alloc (.cells #[.int .i64 q2, .int .i64 op2, .string ⟨p2.toArray⟩, .string ⟨g2.toArray⟩, .slice A2 n2 c2, .bool al2] 24)) (w.heap.size + 1) 24 #[.int .i64 q2, .int .i64 op2, .string ⟨p2.toArray⟩, .string ⟨g2.toArray⟩, .slice A2 n2 c2, .bool al2]) := hide (by have := Blk.new (w.alloc (.cells #[.int .i64 q, .int .i64 op, .string ⟨p.toArray⟩, .string ⟨g.toArray⟩, .slice A n c, .bool al] 24)) 24 #[.int .i64 q2, .int .i64 op2, .string ⟨p2.toArray⟩, .string ⟨g2.toArray⟩, .slice A2 n2 c2, .bool al2]; simpa using this)
  clear hb hb2 hS hr hs hd hd2
  obtain ⟨x0, x1, x2, x3, x4, x5⟩ := HX.out.six
  have hxl := HX.out.lt
  obtain ⟨y0, y1, y2, y3, y4, y5⟩ := HY.out.six
  have hyl := HY.out.lt
  go_enter Tryd.func5, Tryd.ntmps5
  go_wp2_with fail
  with_reducible refine (XF.out _).mono ?_
  rintro e w1 ⟨rfl, hb⟩
  replace HX := hide (HX.out.below hb HX.out.lt)
  replace HY := hide (HY.out.below hb HY.out.lt)
  replace HR := hide (rb HR.out hb)
  replace HQ := hide (rb HQ.out hb)
  replace HB := hide (below_more HB.out (Nat.le_refl _) hb)
  replace HS := hide (HS.out.below hb)
  clear hb
  clear x0 x1 x2 x3 x4 x5 hxl
  obtain ⟨x0, x1, x2, x3, x4, x5⟩ := HX.out.six
  have hxl := HX.out.lt
  clear y0 y1 y2 y3 y4 y5 hyl
  obtain ⟨y0, y1, y2, y3, y4, y5⟩ := HY.out.six
  have hyl := HY.out.lt
  cases F with
  | false =>
    go_wp2_with fail
    with_reducible refine (heads_any _ HS.out).mono ?_
    rintro e wh ⟨rfl, hb⟩
    replace HB := hide (below_more HB.out (Nat.le_refl _) hb)
    clear hb
    go_wp2_with fail
    go_ret
    exact ⟨rfl, HB.out⟩
  | true =>
    go_wp2_with fail
    with_reducible refine (XF2.out _).mono ?_
    rintro e w2 ⟨rfl, hb⟩
    replace HX := hide (HX.out.below hb HX.out.lt)
    replace HY := hide (HY.out.below hb HY.out.lt)
    replace HR := hide (rb HR.out hb)
    replace HQ := hide (rb HQ.out hb)
    replace HB := hide (below_more HB.out (Nat.le_refl _) hb)
    replace HS := hide (HS.out.below hb)
    clear hb
    clear x0 x1 x2 x3 x4 x5 hxl
    obtain ⟨x0, x1, x2, x3, x4, x5⟩ := HX.out.six
    have hxl := HX.out.lt
    clear y0 y1 y2 y3 y4 y5 hyl
    obtain ⟨y0, y1, y2, y3, y4, y5⟩ := HY.out.six
    have hyl := HY.out.lt
    cases F2 with
    | false =>
      go_wp2_with fail
      with_reducible refine (heads_any _ HS.out).mono ?_
      rintro e wh ⟨rfl, hb⟩
      replace HB := hide (below_more HB.out (Nat.le_refl _) hb)
      clear hb
      go_wp2_with fail
      go_ret
      exact ⟨rfl, HB.out⟩
    | true =>
      go_wp2_with fail
      with_reducible refine (XC.out _ HS.out).mono ?_
      rintro e w3 ⟨rfl, hb⟩
      replace HX := hide (HX.out.below hb HX.out.lt)
      replace HY := hide (HY.out.below hb HY.out.lt)
      replace HR := hide (rb HR.out hb)
      replace HQ := hide (rb HQ.out hb)
      replace HB := hide (below_more HB.out (Nat.le_refl _) hb)
      replace HS := hide (HS.out.below hb)
      clear hb
      clear x0 x1 x2 x3 x4 x5 hxl
      obtain ⟨x0, x1, x2, x3, x4, x5⟩ := HX.out.six
      have hxl := HX.out.lt
      clear y0 y1 y2 y3 y4 y5 hyl
      obtain ⟨y0, y1, y2, y3, y4, y5⟩ := HY.out.six
      have hyl := HY.out.lt
      cases V with
      | false =>
        go_wp2_with fail
        with_reducible refine (heads_any _ HS.out).mono ?_
        rintro e wh ⟨rfl, hb⟩
        replace HB := hide (below_more HB.out (Nat.le_refl _) hb)
        clear hb
        go_wp2_with fail
        go_ret
        exact ⟨rfl, HB.out⟩
      | true =>
        go_wp2_with fail
        with_reducible refine (XC2.out _ HS.out).mono ?_
        rintro e w4 ⟨rfl, hb⟩
        replace HX := hide (HX.out.below hb HX.out.lt)
        replace HY := hide (HY.out.below hb HY.out.lt)
        replace HR := hide (rb HR.out hb)
        replace HQ := hide (rb HQ.out hb)
        replace HB := hide (below_more HB.out (Nat.le_refl _) hb)
        replace HS := hide (HS.out.below hb)
        clear hb
        clear x0 x1 x2 x3 x4 x5 hxl
        obtain ⟨x0, x1, x2, x3, x4, x5⟩ := HX.out.six
        have hxl := HX.out.lt
        clear y0 y1 y2 y3 y4 y5 hyl
        obtain ⟨y0, y1, y2, y3, y4, y5⟩ := HY.out.six
        have hyl := HY.out.lt
        cases V2 with
        | false =>
          go_wp2_with fail
          with_reducible refine (heads_any _ HS.out).mono ?_
          rintro e wh ⟨rfl, hb⟩
          replace HB := hide (below_more HB.out (Nat.le_refl _) hb)
          clear hb
          go_wp2_with fail
          go_ret
          exact ⟨rfl, HB.out⟩
        | true =>
          go_wp2_with fail
          with_reducible refine (XE.out _ trivial HS.out HR.out).mono ?_
          rintro e w5 ⟨A5, n5, c5, rfl, hR5, hn5, hn5b, hb⟩
          have HR5 := hide hR5
          replace HX := hide (HX.out.below hb HX.out.lt)
          replace HY := hide (HY.out.below hb HY.out.lt)
          replace HR := hide (rb HR.out hb)
          replace HQ := hide (rb HQ.out hb)
          replace HB := hide (below_more HB.out (Nat.le_refl _) hb)
          replace HS := hide (HS.out.below hb)
          clear hb hR5
          clear x0 x1 x2 x3 x4 x5 hxl
          obtain ⟨x0, x1, x2, x3, x4, x5⟩ := HX.out.six
          have hxl := HX.out.lt
          clear y0 y1 y2 y3 y4 y5 hyl
          obtain ⟨y0, y1, y2, y3, y4, y5⟩ := HY.out.six
          have hyl := HY.out.lt
          go_wp2_with fail
          with_reducible refine (XE2.out _ trivial HS.out HQ.out).mono ?_
          rintro e w6 ⟨A6, n6, c6, rfl, hR6, hn6, hn6b, hb⟩
          replace HR5 := hide (rb HR5.out hb)
          have HR6 := hide hR6
          replace HX := hide (HX.out.below hb HX.out.lt)
          replace HY := hide (HY.out.below hb HY.out.lt)
          replace HR := hide (rb HR.out hb)
          replace HQ := hide (rb HQ.out hb)
          replace HB := hide (below_more HB.out (Nat.le_refl _) hb)
          replace HS := hide (HS.out.below hb)
          clear hb hR6
          clear x0 x1 x2 x3 x4 x5 hxl
          obtain ⟨x0, x1, x2, x3, x4, x5⟩ := HX.out.six
          have hxl := HX.out.lt
          clear y0 y1 y2 y3 y4 y5 hyl
          obtain ⟨y0, y1, y2, y3, y4, y5⟩ := HY.out.six
          have hyl := HY.out.lt
          have hT := HEQ.out trivial trivial
          have XSM := hide (fun W h1 h2 => same_any A5 A6 n5 n6 c5 c6 E E2 W W.heap.size W.heap.size h1 h2)
          rw [hT] at XSM
          clear hT HEQ XF XF2 XC XC2 XE XE2
          go_upto_region 5 with (fail)
          cases T
          · have hx0 : w.heap.size < w6.heap.size := by omega
            refine wp_region_M (fun V => (V.cell? ⟨w.heap.size, 0, none⟩ = some (.int .i64 q) ∧ V.cell? ⟨w.heap.size, 1, none⟩ = some (.int .i64 op) ∧ V.cell? ⟨w.heap.size, 2, none⟩ = some (.string ⟨p.toArray⟩) ∧ V.cell? ⟨w.heap.size, 3, none⟩ = some (.string ⟨g.toArray⟩) ∧ V.cell? ⟨w.heap.size, 4, none⟩ = some (.slice A n c) ∧ V.cell? ⟨w.heap.size, 5, none⟩ = some (.bool al)) ∧ (V.cell? ⟨w.heap.size + 1, 0, none⟩ = some (.int .i64 q2) ∧ V.cell? ⟨w.heap.size + 1, 1, none⟩ = some (.int .i64 op2) ∧ V.cell? ⟨w.heap.size + 1, 2, none⟩ = some (.string ⟨p2.toArray⟩) ∧ V.cell? ⟨w.heap.size + 1, 3, none⟩ = some (.string ⟨g2.toArray⟩) ∧ V.cell? ⟨w.heap.size + 1, 4, none⟩ = some (.slice A2 n2 c2) ∧ V.cell? ⟨w.heap.size + 1, 5, none⟩ = some (.bool al2))) 18 rfl ⟨⟨x0, x1, x2, x3, x4, x5⟩, ⟨y0, y1, y2, y3, y4, y5⟩⟩ (fun hHeld => ?_)
            refine wpAnyM_take (i := 0) (v := ?_) rfl rfl (by kernel_rfl) (fun _ _ _ h => h) (Or.inl ⟨by rfl, ?_⟩) (by assumption) ?_
            rotate_left
            · (intro V hV; (try dsimp only at hV); go_simp; with_reducible rfl)
            try simp only [Act.put, List.setIfInBounds_toArray, List.set_cons_zero, List.set_cons_succ]
            refine wpAnyM_take (i := 1) (v := ?_) rfl rfl (by kernel_rfl) (fun _ _ _ h => h) (Or.inl ⟨by rfl, ?_⟩) (by assumption) ?_
            rotate_left
            · (intro V hV; (try dsimp only at hV); go_simp; with_reducible rfl)
            try simp only [Act.put, List.setIfInBounds_toArray, List.set_cons_zero, List.set_cons_succ]
            refine wpAnyM_take (i := 2) (v := ?_) rfl rfl (by kernel_rfl) (fun _ _ _ h => h) (Or.inl ⟨by rfl, ?_⟩) (by assumption) ?_
            rotate_left
            · (intro V hV; (try dsimp only at hV); go_simp; with_reducible rfl)
            try simp only [Act.put, List.setIfInBounds_toArray, List.set_cons_zero, List.set_cons_succ]
            refine wpAnyM_take (i := 3) (v := ?_) rfl rfl (by kernel_rfl) (fun _ _ _ h => h) (Or.inl ⟨by rfl, ?_⟩) (by assumption) ?_
            rotate_left
            · (intro V hV; (try dsimp only at hV); go_simp; with_reducible rfl)
            try simp only [Act.put, List.setIfInBounds_toArray, List.set_cons_zero, List.set_cons_succ]
            refine wpAnyM_take (i := 4) (v := ?_) rfl rfl (by kernel_rfl) (fun _ _ _ h => h) (Or.inl ⟨by rfl, ?_⟩) (by assumption) ?_
            rotate_left
            · (intro V hV; (try dsimp only at hV); go_simp; with_reducible rfl)
            try simp only [Act.put, List.setIfInBounds_toArray, List.set_cons_zero, List.set_cons_succ]
            refine wpAnyM_take (i := 5) (v := ?_) rfl rfl (by kernel_rfl) (fun _ _ _ h => h) (Or.inl ⟨by rfl, ?_⟩) (by assumption) ?_
            rotate_left
            · (intro V hV; (try dsimp only at hV); go_simp; with_reducible rfl)
            try simp only [Act.put, List.setIfInBounds_toArray, List.set_cons_zero, List.set_cons_succ]
            refine wpAnyM_take (i := 6) (v := ?_) rfl rfl (by kernel_rfl) (fun _ _ _ h => h) (Or.inl ⟨by rfl, ?_⟩) (by assumption) ?_
            rotate_left
            · (intro V hV; (try dsimp only at hV); go_simp; with_reducible rfl)
            try simp only [Act.put, List.setIfInBounds_toArray, List.set_cons_zero, List.set_cons_succ]
            refine wpAnyM_take (i := 7) (v := ?_) rfl rfl (by kernel_rfl) (fun _ _ _ h => h) (Or.inl ⟨by rfl, ?_⟩) (by assumption) ?_
            rotate_left
            · (intro V hV; (try dsimp only at hV); go_simp; with_reducible rfl)
            try simp only [Act.put, List.setIfInBounds_toArray, List.set_cons_zero, List.set_cons_succ]
            refine wpAnyM_take (i := 8) (v := ?_) rfl rfl (by kernel_rfl) (fun _ _ _ h => h) (Or.inl ⟨by rfl, ?_⟩) (by assumption) ?_
            rotate_left
            · (intro V hV; (try dsimp only at hV); go_simp; with_reducible rfl)
            try simp only [Act.put, List.setIfInBounds_toArray, List.set_cons_zero, List.set_cons_succ]
            refine wpAnyM_take (i := 10) (v := ?_) rfl rfl (by kernel_rfl) (fun _ _ _ h => h) (Or.inl ⟨by rfl, ?_⟩) (by assumption) ?_
            rotate_left
            · (intro V hV; (try dsimp only at hV); go_simp; with_reducible rfl)
            try simp only [Act.put, List.setIfInBounds_toArray, List.set_cons_zero, List.set_cons_succ]
            refine wpAnyM_take (i := 11) (v := ?_) rfl rfl (by kernel_rfl) (fun _ _ _ h => h) (Or.inl ⟨by rfl, ?_⟩) (by assumption) ?_
            rotate_left
            · (intro V hV; (try dsimp only at hV); go_simp; with_reducible rfl)
            try simp only [Act.put, List.setIfInBounds_toArray, List.set_cons_zero, List.set_cons_succ]
            refine wpAnyM_step (i := 9) (by kernel_rfl) rfl rfl (fun K hK => ?_)
            go_simp
            refine (XSM.out _ (rb HR5.out ((Below.refl w6.heap.size w6).drew)) (rb HR6.out ((Below.refl w6.heap.size w6).drew))).mono ?_
            rintro e w7 ⟨rfl, rfl⟩
            replace HX := hide HX.out.drew
            replace HY := hide HY.out.drew
            replace HB := hide HB.out.drew
            replace HS := hide (HS.out.below ((Below.refl w6.heap.size w6).drew))
            replace HR := hide (rb HR.out ((Below.refl w6.heap.size w6).drew))
            replace HQ := hide (rb HQ.out ((Below.refl w6.heap.size w6).drew))
            refine hK.out _ _ (fun _ => ⟨⟨x0, x1, x2, x3, x4, x5⟩, ⟨y0, y1, y2, y3, y4, y5⟩⟩) ?_
            clear hK K
            simp only [List.setIfInBounds_toArray]
            refine wpAnyM_step (i := 12) (by kernel_rfl) rfl rfl (fun K hK => ?_)
            go_simp
            refine (XS.out _ HR.out HQ.out).mono ?_
            rintro e w8 ⟨rfl, hb⟩
            replace HX := hide (HX.out.below hb HX.out.lt)
            replace HY := hide (HY.out.below hb HY.out.lt)
            replace HB := hide (below_more HB.out (Nat.le_refl _) hb)
            replace HS := hide (HS.out.below hb)
            clear x0 x1 x2 x3 x4 x5 hxl y0 y1 y2 y3 y4 y5 hyl hb hx0
            obtain ⟨x0, x1, x2, x3, x4, x5⟩ := HX.out.six
            obtain ⟨y0, y1, y2, y3, y4, y5⟩ := HY.out.six
            have HCw8 : (w8.cell? ⟨w.heap.size, 0, none⟩ = some (.int .i64 q) ∧ w8.cell? ⟨w.heap.size, 1, none⟩ = some (.int .i64 op) ∧ w8.cell? ⟨w.heap.size, 2, none⟩ = some (.string ⟨p.toArray⟩) ∧ w8.cell? ⟨w.heap.size, 3, none⟩ = some (.string ⟨g.toArray⟩) ∧ w8.cell? ⟨w.heap.size, 4, none⟩ = some (.slice A n c) ∧ w8.cell? ⟨w.heap.size, 5, none⟩ = some (.bool al)) ∧ (w8.cell? ⟨w.heap.size + 1, 0, none⟩ = some (.int .i64 q2) ∧ w8.cell? ⟨w.heap.size + 1, 1, none⟩ = some (.int .i64 op2) ∧ w8.cell? ⟨w.heap.size + 1, 2, none⟩ = some (.string ⟨p2.toArray⟩) ∧ w8.cell? ⟨w.heap.size + 1, 3, none⟩ = some (.string ⟨g2.toArray⟩) ∧ w8.cell? ⟨w.heap.size + 1, 4, none⟩ = some (.slice A2 n2 c2) ∧ w8.cell? ⟨w.heap.size + 1, 5, none⟩ = some (.bool al2)) := ⟨⟨x0, x1, x2, x3, x4, x5⟩, ⟨y0, y1, y2, y3, y4, y5⟩⟩
            refine hK.out _ _ (fun _ => ⟨⟨x0, x1, x2, x3, x4, x5⟩, ⟨y0, y1, y2, y3, y4, y5⟩⟩) ?_
            clear hK K
            simp only [List.setIfInBounds_toArray]
            refine wpAnyM_take (i := 13) (v := ?_) rfl rfl (by kernel_rfl) (fun _ _ _ h => h) (Or.inl ⟨by rfl, ?_⟩) (by assumption) ?_
            rotate_left
            · (intro V hV; (try dsimp only at hV); go_simp; with_reducible rfl)
            try simp only [Act.put, List.setIfInBounds_toArray, List.set_cons_zero, List.set_cons_succ]
            refine wpAnyM_take (i := 14) (v := ?_) rfl rfl (by kernel_rfl) (fun _ _ _ h => h) (Or.inl ⟨by rfl, ?_⟩) (by assumption) ?_
            rotate_left
            · (intro V hV; (try dsimp only at hV); go_simp; with_reducible rfl)
            try simp only [Act.put, List.setIfInBounds_toArray, List.set_cons_zero, List.set_cons_succ]
            refine wpAnyM_take (i := 15) (v := ?_) rfl rfl (by kernel_rfl) (fun _ _ _ h => h) (Or.inl ⟨by rfl, ?_⟩) (by assumption) ?_
            rotate_left
            · (intro V hV; (try dsimp only at hV); go_simp; with_reducible rfl)
            try simp only [Act.put, List.setIfInBounds_toArray, List.set_cons_zero, List.set_cons_succ]
            refine wpAnyM_step (i := 16) (by kernel_rfl) rfl rfl (fun K hK => ?_)
            go_simp
            refine (heads_any _ HS.out).mono ?_
            rintro e w9 ⟨rfl, hb⟩
            replace HX := hide (HX.out.below hb HX.out.lt)
            replace HY := hide (HY.out.below hb HY.out.lt)
            replace HB := hide (below_more HB.out (Nat.le_refl _) hb)
            clear x0 x1 x2 x3 x4 x5 y0 y1 y2 y3 y4 y5 hb
            obtain ⟨x0, x1, x2, x3, x4, x5⟩ := HX.out.six
            obtain ⟨y0, y1, y2, y3, y4, y5⟩ := HY.out.six
            have HCw9 : (w9.cell? ⟨w.heap.size, 0, none⟩ = some (.int .i64 q) ∧ w9.cell? ⟨w.heap.size, 1, none⟩ = some (.int .i64 op) ∧ w9.cell? ⟨w.heap.size, 2, none⟩ = some (.string ⟨p.toArray⟩) ∧ w9.cell? ⟨w.heap.size, 3, none⟩ = some (.string ⟨g.toArray⟩) ∧ w9.cell? ⟨w.heap.size, 4, none⟩ = some (.slice A n c) ∧ w9.cell? ⟨w.heap.size, 5, none⟩ = some (.bool al)) ∧ (w9.cell? ⟨w.heap.size + 1, 0, none⟩ = some (.int .i64 q2) ∧ w9.cell? ⟨w.heap.size + 1, 1, none⟩ = some (.int .i64 op2) ∧ w9.cell? ⟨w.heap.size + 1, 2, none⟩ = some (.string ⟨p2.toArray⟩) ∧ w9.cell? ⟨w.heap.size + 1, 3, none⟩ = some (.string ⟨g2.toArray⟩) ∧ w9.cell? ⟨w.heap.size + 1, 4, none⟩ = some (.slice A2 n2 c2) ∧ w9.cell? ⟨w.heap.size + 1, 5, none⟩ = some (.bool al2)) := ⟨⟨x0, x1, x2, x3, x4, x5⟩, ⟨y0, y1, y2, y3, y4, y5⟩⟩
            refine hK.out _ _ (fun _ => ⟨⟨x0, x1, x2, x3, x4, x5⟩, ⟨y0, y1, y2, y3, y4, y5⟩⟩) ?_
            clear hK K
            simp only [List.setIfInBounds_toArray]
            refine wpAnyM_take (i := 17) (v := ?_) rfl rfl (by kernel_rfl) (fun _ _ _ h => h) (Or.inl ⟨by rfl, ?_⟩) (by assumption) ?_
            rotate_left
            · (intro V hV; (try dsimp only at hV); go_simp; with_reducible rfl)
            try simp only [Act.put, List.setIfInBounds_toArray, List.set_cons_zero, List.set_cons_succ]
            refine wpAnyM_step (i := 18) (by kernel_rfl) rfl rfl (fun K hK => ?_)
            go_simp
            refine hK.out _ _ (fun h => absurd rfl h) ?_
            refine wpAnyM_done (by kernel_rfl) ?_ _
            clear hK K
            go_wp2_with fail
            go_ret
            exact ⟨rfl, HB.out⟩
          · have hx0 : w.heap.size < w6.heap.size := by omega
            refine wp_region_M (fun V => (V.cell? ⟨w.heap.size, 0, none⟩ = some (.int .i64 q) ∧ V.cell? ⟨w.heap.size, 1, none⟩ = some (.int .i64 op) ∧ V.cell? ⟨w.heap.size, 2, none⟩ = some (.string ⟨p.toArray⟩) ∧ V.cell? ⟨w.heap.size, 3, none⟩ = some (.string ⟨g.toArray⟩) ∧ V.cell? ⟨w.heap.size, 4, none⟩ = some (.slice A n c) ∧ V.cell? ⟨w.heap.size, 5, none⟩ = some (.bool al)) ∧ (V.cell? ⟨w.heap.size + 1, 0, none⟩ = some (.int .i64 q2) ∧ V.cell? ⟨w.heap.size + 1, 1, none⟩ = some (.int .i64 op2) ∧ V.cell? ⟨w.heap.size + 1, 2, none⟩ = some (.string ⟨p2.toArray⟩) ∧ V.cell? ⟨w.heap.size + 1, 3, none⟩ = some (.string ⟨g2.toArray⟩) ∧ V.cell? ⟨w.heap.size + 1, 4, none⟩ = some (.slice A2 n2 c2) ∧ V.cell? ⟨w.heap.size + 1, 5, none⟩ = some (.bool al2))) 18 rfl ⟨⟨x0, x1, x2, x3, x4, x5⟩, ⟨y0, y1, y2, y3, y4, y5⟩⟩ (fun hHeld => ?_)
            refine wpAnyM_take (i := 0) (v := ?_) rfl rfl (by kernel_rfl) (fun _ _ _ h => h) (Or.inl ⟨by rfl, ?_⟩) (by assumption) ?_
            rotate_left
            · (intro V hV; (try dsimp only at hV); go_simp; with_reducible rfl)
            try simp only [Act.put, List.setIfInBounds_toArray, List.set_cons_zero, List.set_cons_succ]
            refine wpAnyM_take (i := 1) (v := ?_) rfl rfl (by kernel_rfl) (fun _ _ _ h => h) (Or.inl ⟨by rfl, ?_⟩) (by assumption) ?_
            rotate_left
            · (intro V hV; (try dsimp only at hV); go_simp; with_reducible rfl)
            try simp only [Act.put, List.setIfInBounds_toArray, List.set_cons_zero, List.set_cons_succ]
            refine wpAnyM_take (i := 2) (v := ?_) rfl rfl (by kernel_rfl) (fun _ _ _ h => h) (Or.inl ⟨by rfl, ?_⟩) (by assumption) ?_
            rotate_left
            · (intro V hV; (try dsimp only at hV); go_simp; with_reducible rfl)
            try simp only [Act.put, List.setIfInBounds_toArray, List.set_cons_zero, List.set_cons_succ]
            refine wpAnyM_take (i := 3) (v := ?_) rfl rfl (by kernel_rfl) (fun _ _ _ h => h) (Or.inl ⟨by rfl, ?_⟩) (by assumption) ?_
            rotate_left
            · (intro V hV; (try dsimp only at hV); go_simp; with_reducible rfl)
            try simp only [Act.put, List.setIfInBounds_toArray, List.set_cons_zero, List.set_cons_succ]
            refine wpAnyM_take (i := 4) (v := ?_) rfl rfl (by kernel_rfl) (fun _ _ _ h => h) (Or.inl ⟨by rfl, ?_⟩) (by assumption) ?_
            rotate_left
            · (intro V hV; (try dsimp only at hV); go_simp; with_reducible rfl)
            try simp only [Act.put, List.setIfInBounds_toArray, List.set_cons_zero, List.set_cons_succ]
            refine wpAnyM_take (i := 5) (v := ?_) rfl rfl (by kernel_rfl) (fun _ _ _ h => h) (Or.inl ⟨by rfl, ?_⟩) (by assumption) ?_
            rotate_left
            · (intro V hV; (try dsimp only at hV); go_simp; with_reducible rfl)
            try simp only [Act.put, List.setIfInBounds_toArray, List.set_cons_zero, List.set_cons_succ]
            refine wpAnyM_take (i := 6) (v := ?_) rfl rfl (by kernel_rfl) (fun _ _ _ h => h) (Or.inl ⟨by rfl, ?_⟩) (by assumption) ?_
            rotate_left
            · (intro V hV; (try dsimp only at hV); go_simp; with_reducible rfl)
            try simp only [Act.put, List.setIfInBounds_toArray, List.set_cons_zero, List.set_cons_succ]
            refine wpAnyM_take (i := 7) (v := ?_) rfl rfl (by kernel_rfl) (fun _ _ _ h => h) (Or.inl ⟨by rfl, ?_⟩) (by assumption) ?_
            rotate_left
            · (intro V hV; (try dsimp only at hV); go_simp; with_reducible rfl)
            try simp only [Act.put, List.setIfInBounds_toArray, List.set_cons_zero, List.set_cons_succ]
            refine wpAnyM_take (i := 8) (v := ?_) rfl rfl (by kernel_rfl) (fun _ _ _ h => h) (Or.inl ⟨by rfl, ?_⟩) (by assumption) ?_
            rotate_left
            · (intro V hV; (try dsimp only at hV); go_simp; with_reducible rfl)
            try simp only [Act.put, List.setIfInBounds_toArray, List.set_cons_zero, List.set_cons_succ]
            refine wpAnyM_take (i := 10) (v := ?_) rfl rfl (by kernel_rfl) (fun _ _ _ h => h) (Or.inl ⟨by rfl, ?_⟩) (by assumption) ?_
            rotate_left
            · (intro V hV; (try dsimp only at hV); go_simp; with_reducible rfl)
            try simp only [Act.put, List.setIfInBounds_toArray, List.set_cons_zero, List.set_cons_succ]
            refine wpAnyM_take (i := 11) (v := ?_) rfl rfl (by kernel_rfl) (fun _ _ _ h => h) (Or.inl ⟨by rfl, ?_⟩) (by assumption) ?_
            rotate_left
            · (intro V hV; (try dsimp only at hV); go_simp; with_reducible rfl)
            try simp only [Act.put, List.setIfInBounds_toArray, List.set_cons_zero, List.set_cons_succ]
            refine wpAnyM_step (i := 9) (by kernel_rfl) rfl rfl (fun K hK => ?_)
            go_simp
            refine (XSM.out _ (rb HR5.out ((Below.refl w6.heap.size w6).drew)) (rb HR6.out ((Below.refl w6.heap.size w6).drew))).mono ?_
            rintro e w7 ⟨rfl, rfl⟩
            replace HX := hide HX.out.drew
            replace HY := hide HY.out.drew
            replace HB := hide HB.out.drew
            replace HS := hide (HS.out.below ((Below.refl w6.heap.size w6).drew))
            replace HR := hide (rb HR.out ((Below.refl w6.heap.size w6).drew))
            replace HQ := hide (rb HQ.out ((Below.refl w6.heap.size w6).drew))
            refine hK.out _ _ (fun _ => ⟨⟨x0, x1, x2, x3, x4, x5⟩, ⟨y0, y1, y2, y3, y4, y5⟩⟩) ?_
            clear hK K
            simp only [List.setIfInBounds_toArray]
            refine wpAnyM_step (i := 12) (by kernel_rfl) rfl rfl (fun K hK => ?_)
            go_simp
            refine (XS.out _ HR.out HQ.out).mono ?_
            rintro e w8 ⟨rfl, hb⟩
            replace HX := hide (HX.out.below hb HX.out.lt)
            replace HY := hide (HY.out.below hb HY.out.lt)
            replace HB := hide (below_more HB.out (Nat.le_refl _) hb)
            replace HS := hide (HS.out.below hb)
            clear x0 x1 x2 x3 x4 x5 hxl y0 y1 y2 y3 y4 y5 hyl hb hx0
            obtain ⟨x0, x1, x2, x3, x4, x5⟩ := HX.out.six
            obtain ⟨y0, y1, y2, y3, y4, y5⟩ := HY.out.six
            have HCw8 : (w8.cell? ⟨w.heap.size, 0, none⟩ = some (.int .i64 q) ∧ w8.cell? ⟨w.heap.size, 1, none⟩ = some (.int .i64 op) ∧ w8.cell? ⟨w.heap.size, 2, none⟩ = some (.string ⟨p.toArray⟩) ∧ w8.cell? ⟨w.heap.size, 3, none⟩ = some (.string ⟨g.toArray⟩) ∧ w8.cell? ⟨w.heap.size, 4, none⟩ = some (.slice A n c) ∧ w8.cell? ⟨w.heap.size, 5, none⟩ = some (.bool al)) ∧ (w8.cell? ⟨w.heap.size + 1, 0, none⟩ = some (.int .i64 q2) ∧ w8.cell? ⟨w.heap.size + 1, 1, none⟩ = some (.int .i64 op2) ∧ w8.cell? ⟨w.heap.size + 1, 2, none⟩ = some (.string ⟨p2.toArray⟩) ∧ w8.cell? ⟨w.heap.size + 1, 3, none⟩ = some (.string ⟨g2.toArray⟩) ∧ w8.cell? ⟨w.heap.size + 1, 4, none⟩ = some (.slice A2 n2 c2) ∧ w8.cell? ⟨w.heap.size + 1, 5, none⟩ = some (.bool al2)) := ⟨⟨x0, x1, x2, x3, x4, x5⟩, ⟨y0, y1, y2, y3, y4, y5⟩⟩
            refine hK.out _ _ (fun _ => ⟨⟨x0, x1, x2, x3, x4, x5⟩, ⟨y0, y1, y2, y3, y4, y5⟩⟩) ?_
            clear hK K
            simp only [List.setIfInBounds_toArray]
            refine wpAnyM_take (i := 13) (v := ?_) rfl rfl (by kernel_rfl) (fun _ _ _ h => h) (Or.inl ⟨by rfl, ?_⟩) (by assumption) ?_
            rotate_left
            · (intro V hV; (try dsimp only at hV); go_simp; with_reducible rfl)
            try simp only [Act.put, List.setIfInBounds_toArray, List.set_cons_zero, List.set_cons_succ]
            refine wpAnyM_take (i := 14) (v := ?_) rfl rfl (by kernel_rfl) (fun _ _ _ h => h) (Or.inl ⟨by rfl, ?_⟩) (by assumption) ?_
            rotate_left
            · (intro V hV; (try dsimp only at hV); go_simp; with_reducible rfl)
            try simp only [Act.put, List.setIfInBounds_toArray, List.set_cons_zero, List.set_cons_succ]
            refine wpAnyM_take (i := 15) (v := ?_) rfl rfl (by kernel_rfl) (fun _ _ _ h => h) (Or.inl ⟨by rfl, ?_⟩) (by assumption) ?_
            rotate_left
            · (intro V hV; (try dsimp only at hV); go_simp; with_reducible rfl)
            try simp only [Act.put, List.setIfInBounds_toArray, List.set_cons_zero, List.set_cons_succ]
            refine wpAnyM_step (i := 16) (by kernel_rfl) rfl rfl (fun K hK => ?_)
            go_simp
            refine (heads_any _ HS.out).mono ?_
            rintro e w9 ⟨rfl, hb⟩
            replace HX := hide (HX.out.below hb HX.out.lt)
            replace HY := hide (HY.out.below hb HY.out.lt)
            replace HB := hide (below_more HB.out (Nat.le_refl _) hb)
            clear x0 x1 x2 x3 x4 x5 y0 y1 y2 y3 y4 y5 hb
            obtain ⟨x0, x1, x2, x3, x4, x5⟩ := HX.out.six
            obtain ⟨y0, y1, y2, y3, y4, y5⟩ := HY.out.six
            have HCw9 : (w9.cell? ⟨w.heap.size, 0, none⟩ = some (.int .i64 q) ∧ w9.cell? ⟨w.heap.size, 1, none⟩ = some (.int .i64 op) ∧ w9.cell? ⟨w.heap.size, 2, none⟩ = some (.string ⟨p.toArray⟩) ∧ w9.cell? ⟨w.heap.size, 3, none⟩ = some (.string ⟨g.toArray⟩) ∧ w9.cell? ⟨w.heap.size, 4, none⟩ = some (.slice A n c) ∧ w9.cell? ⟨w.heap.size, 5, none⟩ = some (.bool al)) ∧ (w9.cell? ⟨w.heap.size + 1, 0, none⟩ = some (.int .i64 q2) ∧ w9.cell? ⟨w.heap.size + 1, 1, none⟩ = some (.int .i64 op2) ∧ w9.cell? ⟨w.heap.size + 1, 2, none⟩ = some (.string ⟨p2.toArray⟩) ∧ w9.cell? ⟨w.heap.size + 1, 3, none⟩ = some (.string ⟨g2.toArray⟩) ∧ w9.cell? ⟨w.heap.size + 1, 4, none⟩ = some (.slice A2 n2 c2) ∧ w9.cell? ⟨w.heap.size + 1, 5, none⟩ = some (.bool al2)) := ⟨⟨x0, x1, x2, x3, x4, x5⟩, ⟨y0, y1, y2, y3, y4, y5⟩⟩
            refine hK.out _ _ (fun _ => ⟨⟨x0, x1, x2, x3, x4, x5⟩, ⟨y0, y1, y2, y3, y4, y5⟩⟩) ?_
            clear hK K
            simp only [List.setIfInBounds_toArray]
            refine wpAnyM_take (i := 17) (v := ?_) rfl rfl (by kernel_rfl) (fun _ _ _ h => h) (Or.inl ⟨by rfl, ?_⟩) (by assumption) ?_
            rotate_left
            · (intro V hV; (try dsimp only at hV); go_simp; with_reducible rfl)
            try simp only [Act.put, List.setIfInBounds_toArray, List.set_cons_zero, List.set_cons_succ]
            refine wpAnyM_step (i := 18) (by kernel_rfl) rfl rfl (fun K hK => ?_)
            go_simp
            refine hK.out _ _ (fun h => absurd rfl h) ?_
            refine wpAnyM_done (by kernel_rfl) ?_ _
            clear hK K
            go_wp2_with fail
            go_ret
            exact ⟨rfl, HB.out⟩
end Go.Proofs.YtabbkhkkhphgdaaDoor
