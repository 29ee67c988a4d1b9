/- The law RecordBack. -/
import Derived.Test.YtabbkhkkhphgdaaDoorRecI
import Derived.Test.YtabbkhkkhphgdaaDoorRecLa
namespace Go.Proofs.YtabbkhkkhphgdaaDoor
open Go.RowKit
set_option linter.unusedVariables false
set_option maxRecDepth 100000 in
set_option maxHeartbeats 16000000 in
theorem back_any (r : Rec) (A : Option Addr) (n c : Nat) (hd : r.dig.length = n) (B0 : Option Addr) (m k : Nat) (b : LB) (hmk : m ≤ k) (w : World) (hS : Std w) (hr : Rd w A n r.dig) (hb0 : Rd w B0 m b) :
    Calls Tryd.prog 4 #[Rec.v r A n c, .slice B0 m k] w fun e w' => e = .returned (.bool true) ∧ Below w.heap.size w w' := by
  have XF := hide (fun W => few_any r A n c hd W)
  have XC := hide (fun W h => chk_any r A n c hd W h)
  have XE := hide (fun W hV h hR => enc_ok r A n c hd W h hR hV)
  have XB := hide (fun W hV h => enc_bad r A n c hd W h hV)
  have XS := hide (fun W A2 n2 c2 h1 h2 => rsame_any r r A2 A n2 c2 n c W h1 h2)
  have hsr : sameP r r = true := (same_iff r r).2 rfl
  rw [hsr] at XS
  have XD := hide (fun W A n c hV hR hnc hn h => dec_some (b := encP r) (r := r) (enc_dec hV) A n c W hR hnc hn h)
  have XDn := hide (fun W hm h hR hS => dec_none (b := b) h B0 m k W hR hmk hm hS)
  have XDs := hide (fun W hm z h hR hS => dec_some (b := b) (r := z) h B0 m k W hR hmk hm hS)
  have XZ := hide (fun W (z : Rec) A n c hd hV h hR => enc_ok z A n c hd W h hR hV)
  have HZE := hide (fun (z : Rec) h => dec_enc (b := b) (r := z) h)
  generalize fewP r = F at *
  generalize validP r = V at *
  generalize encP r = E at *
  generalize decP b = D at *
  clear hsr
  obtain ⟨q, op, p, g, d, al⟩ := r
  unfold Rec.v at *
  dsimp only at *
  have hb := (Below.refl w.heap.size w).alloc (Nat.le_refl _) (.cells #[.int .i64 q, .int .i64 op, .string ⟨p.toArray⟩, .string ⟨g.toArray⟩, .slice A n c, .bool al] 24)
  have HB := hide hb
  have HS := hide (hS.below hb)
  have HR := hide (rb hr hb)
  have HQ := hide (rb hb0 hb)
  have HX := hide (Blk.new w 24 #[.int .i64 q, .int .i64 op, .string ⟨p.toArray⟩, .string ⟨g.toArray⟩, .slice A n c, .bool al])
  clear hb hS hr hb0 hd
  obtain ⟨x0, x1, x2, x3, x4, x5⟩ := HX.out.six
  have hxl := HX.out.lt
  go_enter Tryd.func4, Tryd.ntmps4
  go_wp2_with fail
  with_reducible refine (XF.out _).mono ?_
  rintro e w1 ⟨rfl, hb⟩
  replace HX := hide (HX.out.below hb HX.out.lt)
  replace HR := hide (rb HR.out hb)
  replace HQ := hide (rb HQ.out hb)
  replace HB := hide (below_more HB.out (Nat.le_refl _) hb)
  replace HS := hide (HS.out.below hb)
  clear hb
  clear x0 x1 x2 x3 x4 x5 hxl
  obtain ⟨x0, x1, x2, x3, x4, x5⟩ := HX.out.six
  have hxl := HX.out.lt
  cases F with
  | false =>
    go_wp2_with fail
    with_reducible refine (heads_any _ HS.out).mono ?_
    rintro e wh ⟨rfl, hb⟩
    replace HB := hide (below_more HB.out (Nat.le_refl _) hb)
    clear hb
    go_wp2_with fail
    go_ret
    exact ⟨rfl, HB.out⟩
  | true =>
    by_cases hbig : m ≤ 2000
    · have HBIG := hide hbig
      cases V with
      | false =>
        go_wp2_with fail
        with_reducible refine (XB.out _ trivial HS.out).mono ?_
        rintro e w2 ⟨rfl, hb⟩
        replace HX := hide (HX.out.below hb HX.out.lt)
        replace HR := hide (rb HR.out hb)
        replace HQ := hide (rb HQ.out hb)
        replace HB := hide (below_more HB.out (Nat.le_refl _) hb)
        replace HS := hide (HS.out.below hb)
        clear hb
        clear x0 x1 x2 x3 x4 x5 hxl
        obtain ⟨x0, x1, x2, x3, x4, x5⟩ := HX.out.six
        have hxl := HX.out.lt
        go_wp2_with fail
        with_reducible refine (XC.out _ HS.out).mono ?_
        rintro e w3 ⟨rfl, hb⟩
        replace HX := hide (HX.out.below hb HX.out.lt)
        replace HR := hide (rb HR.out hb)
        replace HQ := hide (rb HQ.out hb)
        replace HB := hide (below_more HB.out (Nat.le_refl _) hb)
        replace HS := hide (HS.out.below hb)
        clear hb
        clear x0 x1 x2 x3 x4 x5 hxl
        obtain ⟨x0, x1, x2, x3, x4, x5⟩ := HX.out.six
        have hxl := HX.out.lt
        cases D with
        | none =>
          go_wp2_with fail
          with_reducible refine (XDn.out _ (by omega) trivial HQ.out HS.out).mono ?_
          rintro e w7 ⟨A3, n3, c3, rfl, hR3, hn3, hn3b, hb⟩
          have hb2 := below_more hb (Nat.le_refl _) ((Below.refl w7.heap.size w7).alloc (Nat.le_refl _) (.cells #[.int .i64 0, .int .i64 0, .string ⟨#[]⟩, .string ⟨#[]⟩, .slice A3 n3 c3, .bool false] 24))
          replace HB := hide (below_more HB.out (Nat.le_refl _) hb2)
          replace HS := hide (HS.out.below hb2)
          clear hb hb2 hR3
          unfold zR
          dsimp only
          go_wp2_with fail
          with_reducible refine (heads_any _ HS.out).mono ?_
          rintro e wh ⟨rfl, hb⟩
          replace HB := hide (below_more HB.out (Nat.le_refl _) hb)
          clear hb
          go_wp2_with fail
          go_ret
          exact ⟨rfl, HB.out⟩
        | some z =>
          obtain ⟨hz1, hz2⟩ := HZE.out z rfl
          have HV := hide hz1
          have HEZ := hide hz2
          clear hz1 hz2
          have XD2 := hide (fun W hR hS => XDs.out W (by omega) z rfl hR hS)
          obtain ⟨q3, op3, p3, g3, d3, al3⟩ := z
          dsimp only at XD2
          go_wp2_with fail
          with_reducible refine (XD2.out _ HQ.out HS.out).mono ?_
          rintro e w7 ⟨A3, n3, c3, rfl, hR3, hn3, hn3b, hb⟩
          have hd3 : d3.length = n3 := hR3.len
          have hb2 := below_more hb (Nat.le_refl _) ((Below.refl w7.heap.size w7).alloc (Nat.le_refl _) (.cells #[.int .i64 q3, .int .i64 op3, .string ⟨p3.toArray⟩, .string ⟨g3.toArray⟩, .slice A3 n3 c3, .bool al3] 24))
          replace HB := hide (below_more HB.out (Nat.le_refl _) hb2)
          replace HS := hide (HS.out.below hb2)
          replace HQ := hide (rb HQ.out hb2)
          have HR3 := hide (rb hR3 ((Below.refl w7.heap.size w7).alloc (Nat.le_refl _) (.cells #[.int .i64 q3, .int .i64 op3, .string ⟨p3.toArray⟩, .string ⟨g3.toArray⟩, .slice A3 n3 c3, .bool al3] 24)))
          have XZ2 := hide (fun W h hR => XZ.out W ⟨q3, op3, p3, g3, d3, al3⟩ A3 n3 c3 hd3 HV.out h hR)
          dsimp only at XZ2
          rw [HEZ.out] at XZ2
          clear hb hb2 hR3 hd3 XD2 XDs XZ HZE
          go_wp2_with fail
          with_reducible refine (XZ2.out _ HS.out HR3.out).mono ?_
          rintro e w8 ⟨A4, n4, c4, rfl, hR4, hn4, hn4b, hb⟩
          have HR4 := hide hR4
          replace HB := hide (below_more HB.out (Nat.le_refl _) hb)
          replace HS := hide (HS.out.below hb)
          replace HQ := hide (rb HQ.out hb)
          clear hb hR4
          have XM := hide (fun W h1 h2 => same_any A4 B0 n4 m c4 k b b W W.heap.size W.heap.size h1 h2)
          have hbb : (b == b) = true := by simp
          rw [hbb] at XM
          go_wp2_with fail
          with_reducible refine (XM.out _ HR4.out HQ.out).mono ?_
          rintro e w9 ⟨rfl, rfl⟩
          go_wp2_with fail
          with_reducible refine (heads_any _ HS.out).mono ?_
          rintro e wh ⟨rfl, hb⟩
          replace HB := hide (below_more HB.out (Nat.le_refl _) hb)
          clear hb
          go_wp2_with fail
          go_ret
          exact ⟨rfl, HB.out⟩
      | true =>
        go_wp2_with fail
        with_reducible refine (XE.out _ trivial HS.out HR.out).mono ?_
        rintro e w2 ⟨A5, n5, c5, rfl, hR5, hn5, hn5b, hb⟩
        have HR5 := hide hR5
        replace HX := hide (HX.out.below hb HX.out.lt)
        replace HR := hide (rb HR.out hb)
        replace HQ := hide (rb HQ.out hb)
        replace HB := hide (below_more HB.out (Nat.le_refl _) hb)
        replace HS := hide (HS.out.below hb)
        clear hb hR5
        clear x0 x1 x2 x3 x4 x5 hxl
        obtain ⟨x0, x1, x2, x3, x4, x5⟩ := HX.out.six
        have hxl := HX.out.lt
        go_wp2_with fail
        with_reducible refine (XC.out _ HS.out).mono ?_
        rintro e w3 ⟨rfl, hb⟩
        replace HR5 := hide (rb HR5.out hb)
        replace HX := hide (HX.out.below hb HX.out.lt)
        replace HR := hide (rb HR.out hb)
        replace HQ := hide (rb HQ.out hb)
        replace HB := hide (below_more HB.out (Nat.le_refl _) hb)
        replace HS := hide (HS.out.below hb)
        clear hb
        clear x0 x1 x2 x3 x4 x5 hxl
        obtain ⟨x0, x1, x2, x3, x4, x5⟩ := HX.out.six
        have hxl := HX.out.lt
        go_wp2_with fail
        with_reducible refine (XD.out _ A5 n5 c5 trivial HR5.out hn5 (by omega) HS.out).mono ?_
        rintro e w4 ⟨A2, n2, c2, rfl, hR2, hn2, hn2b, hb⟩
        have HY := hide (Blk.new w4 24 #[.int .i64 q, .int .i64 op, .string ⟨p.toArray⟩, .string ⟨g.toArray⟩, .slice A2 n2 c2, .bool al])
        have hba := (Below.refl w4.heap.size w4).alloc (Nat.le_refl _) (.cells #[.int .i64 q, .int .i64 op, .string ⟨p.toArray⟩, .string ⟨g.toArray⟩, .slice A2 n2 c2, .bool al] 24)
        have HR2 := hide (rb hR2 hba)
        replace hb := below_more hb (Nat.le_refl _) hba
        replace HX := hide (HX.out.below hb HX.out.lt)
        replace HR := hide (rb HR.out hb)
        replace HQ := hide (rb HQ.out hb)
        replace HB := hide (below_more HB.out (Nat.le_refl _) hb)
        replace HS := hide (HS.out.below hb)
        clear hb hba hR2
        clear x0 x1 x2 x3 x4 x5 hxl
        obtain ⟨x0, x1, x2, x3, x4, x5⟩ := HX.out.six
        have hxl := HX.out.lt
        obtain ⟨y0, y1, y2, y3, y4, y5⟩ := HY.out.six
        have hyl := HY.out.lt
        go_wp2_with fail
        with_reducible refine (XS.out _ A2 n2 c2 HR2.out HR.out).mono ?_
        rintro e w5 ⟨rfl, hb⟩
        clear HY HR2 HR5 y0 y1 y2 y3 y4 y5 hyl
        replace HX := hide (HX.out.below hb HX.out.lt)
        replace HR := hide (rb HR.out hb)
        replace HQ := hide (rb HQ.out hb)
        replace HB := hide (below_more HB.out (Nat.le_refl _) hb)
        replace HS := hide (HS.out.below hb)
        clear hb
        clear x0 x1 x2 x3 x4 x5 hxl
        obtain ⟨x0, x1, x2, x3, x4, x5⟩ := HX.out.six
        have hxl := HX.out.lt
        cases D with
        | none =>
          go_wp2_with fail
          with_reducible refine (XDn.out _ (by omega) trivial HQ.out HS.out).mono ?_
          rintro e w7 ⟨A3, n3, c3, rfl, hR3, hn3, hn3b, hb⟩
          have hb2 := below_more hb (Nat.le_refl _) ((Below.refl w7.heap.size w7).alloc (Nat.le_refl _) (.cells #[.int .i64 0, .int .i64 0, .string ⟨#[]⟩, .string ⟨#[]⟩, .slice A3 n3 c3, .bool false] 24))
          replace HB := hide (below_more HB.out (Nat.le_refl _) hb2)
          replace HS := hide (HS.out.below hb2)
          clear hb hb2 hR3
          unfold zR
          dsimp only
          go_wp2_with fail
          with_reducible refine (heads_any _ HS.out).mono ?_
          rintro e wh ⟨rfl, hb⟩
          replace HB := hide (below_more HB.out (Nat.le_refl _) hb)
          clear hb
          go_wp2_with fail
          go_ret
          exact ⟨rfl, HB.out⟩
        | some z =>
          obtain ⟨hz1, hz2⟩ := HZE.out z rfl
          have HV := hide hz1
          have HEZ := hide hz2
          clear hz1 hz2
          have XD2 := hide (fun W hR hS => XDs.out W (by omega) z rfl hR hS)
          obtain ⟨q3, op3, p3, g3, d3, al3⟩ := z
          dsimp only at XD2
          go_wp2_with fail
          with_reducible refine (XD2.out _ HQ.out HS.out).mono ?_
          rintro e w7 ⟨A3, n3, c3, rfl, hR3, hn3, hn3b, hb⟩
          have hd3 : d3.length = n3 := hR3.len
          have hb2 := below_more hb (Nat.le_refl _) ((Below.refl w7.heap.size w7).alloc (Nat.le_refl _) (.cells #[.int .i64 q3, .int .i64 op3, .string ⟨p3.toArray⟩, .string ⟨g3.toArray⟩, .slice A3 n3 c3, .bool al3] 24))
          replace HB := hide (below_more HB.out (Nat.le_refl _) hb2)
          replace HS := hide (HS.out.below hb2)
          replace HQ := hide (rb HQ.out hb2)
          have HR3 := hide (rb hR3 ((Below.refl w7.heap.size w7).alloc (Nat.le_refl _) (.cells #[.int .i64 q3, .int .i64 op3, .string ⟨p3.toArray⟩, .string ⟨g3.toArray⟩, .slice A3 n3 c3, .bool al3] 24)))
          have XZ2 := hide (fun W h hR => XZ.out W ⟨q3, op3, p3, g3, d3, al3⟩ A3 n3 c3 hd3 HV.out h hR)
          dsimp only at XZ2
          rw [HEZ.out] at XZ2
          clear hb hb2 hR3 hd3 XD2 XDs XZ HZE
          go_wp2_with fail
          with_reducible refine (XZ2.out _ HS.out HR3.out).mono ?_
          rintro e w8 ⟨A4, n4, c4, rfl, hR4, hn4, hn4b, hb⟩
          have HR4 := hide hR4
          replace HB := hide (below_more HB.out (Nat.le_refl _) hb)
          replace HS := hide (HS.out.below hb)
          replace HQ := hide (rb HQ.out hb)
          clear hb hR4
          have XM := hide (fun W h1 h2 => same_any A4 B0 n4 m c4 k b b W W.heap.size W.heap.size h1 h2)
          have hbb : (b == b) = true := by simp
          rw [hbb] at XM
          go_wp2_with fail
          with_reducible refine (XM.out _ HR4.out HQ.out).mono ?_
          rintro e w9 ⟨rfl, rfl⟩
          go_wp2_with fail
          with_reducible refine (heads_any _ HS.out).mono ?_
          rintro e wh ⟨rfl, hb⟩
          replace HB := hide (below_more HB.out (Nat.le_refl _) hb)
          clear hb
          go_wp2_with fail
          go_ret
          exact ⟨rfl, HB.out⟩
    · have hbig2 : ¬ (m : Int) ≤ 2000 := by omega
      go_wp2_with fail
      with_reducible refine (heads_any _ HS.out).mono ?_
      rintro e wh ⟨rfl, hb⟩
      replace HB := hide (below_more HB.out (Nat.le_refl _) hb)
      clear hb
      go_wp2_with fail
      go_ret
      exact ⟨rfl, HB.out⟩
end Go.Proofs.YtabbkhkkhphgdaaDoor
