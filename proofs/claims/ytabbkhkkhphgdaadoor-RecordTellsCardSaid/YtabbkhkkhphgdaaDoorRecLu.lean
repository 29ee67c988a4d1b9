/- The law RecordTells. -/
import Derived.Test.YtabbkhkkhphgdaaDoorRefRe
import Derived.Test.YtabbkhkkhphgdaaDoorRecLb
import Derived.Deep.RegionHeld3
namespace Go.Proofs.YtabbkhkkhphgdaaDoor
open Go.RowKit
set_option linter.unusedVariables false
def eB (r : Rec) : LB := if validP r = true then encP r else []
def eC (r : Rec) : Int := if validP r = true then 0 else 2
theorem enc_all (r : Rec) (A : Option Addr) (n c : Nat) (hd : r.dig.length = n) (w : World) (hS : Std w) (hR : Rd w A n r.dig) :
    Calls Tryd.prog 8 #[Rec.v r A n c] w fun e w' => ∃ A' n' c', e = .returned (.tuple #[.slice A' n' c', .int .i64 (eC r)]) ∧ Rd w' A' n' (eB r) ∧ Below w.heap.size w w' := by
  unfold eB eC
  cases hV : validP r with
  | false => exact (enc_bad r A n c hd w hS hV).mono fun e w' ⟨h1, h2⟩ => ⟨none, 0, 0, h1, Reads.none_, h2⟩
  | true => exact (enc_ok r A n c hd w hS hR hV).mono fun e w' ⟨A', n', c', h1, h2, h3, h4, h5⟩ => ⟨A', n', c', h1, h2, h5⟩
theorem renc_all (r : Rec) (A : Option Addr) (n c : Nat) (hd : r.dig.length = n) (w : World) (hR : Rd w A n r.dig) :
    Calls Tryd.prog 9 #[Rec.v r A n c] w fun e w' => ∃ A' n' c', e = .returned (.tuple #[.slice A' n' c', .int .i64 (eC r)]) ∧ Rd w' A' n' (eB r) ∧ Below w.heap.size w w' := by
  unfold eB eC
  cases hV : validP r with
  | false => exact (renc_bad r A n c hd w hV).mono fun e w' ⟨h1, h2⟩ => ⟨none, 0, 0, h1, Reads.none_, h2⟩
  | true => exact (renc_ok r A n c hd w hR hV).mono fun e w' ⟨A', n', c', h1, h2, h3, h4, h5⟩ => ⟨A', n', c', h1, h2, h5⟩
set_option maxRecDepth 100000 in
set_option maxHeartbeats 16000000 in
theorem tells_any (r : Rec) (A : Option Addr) (n c : Nat) (hd : r.dig.length = n) (B0 : Option Addr) (m k : Nat) (b : LB) (hmk : m ≤ k) (op : Int) (w : World) (hS : Std w) (hr : Rd w A n r.dig) (hb0 : Rd w B0 m b) :
    Calls Tryd.prog 3 #[Rec.v r A n c, .slice B0 m k, .int .i64 op] w fun e w' => e = .returned (.bool true) ∧ Below w.heap.size w w' := by
  have XF := hide (fun W => few_any r A n c hd W)
  have XE := hide (fun W h hR => enc_all r A n c hd W h hR)
  have XRE := hide (fun W hR => renc_all r A n c hd W hR)
  have XD := hide (fun W hm hR h => dec_any B0 m k b W hR hmk hm h)
  have XRD := hide (fun W hm hR => rdec_any_ B0 m k b W hR hmk hm)
  have XC := hide (fun W h => chk_any r A n c hd W h)
  have XRC := hide (fun W => rcheck_any r A n c hd W)
  have XL := hide (fun W h hR => line_any r A n c hd W h hR)
  have XRL := hide (fun W hR => rline_any r A n c hd W hR)
  have XW := hide (fun W h => word_any op W h)
  have XRW := hide (fun W => rword_any op W)
  have XS := hide (fun W A5 n5 c5 A6 n6 c6 h1 h2 => rsame_any ((decP b).getD zR) ((decP b).getD zR) A5 A6 n5 c5 n6 c6 W h1 h2)
  rw [(same_iff _ _).2 rfl] at XS
  unfold DecEnd at XD XRD
  generalize (decP b).getD zR = Rz at *
  generalize (if (decP b).isSome = true then (0 : Int) else 5) = DC at *
  generalize fewP r = F at *
  generalize eB r = EB at *
  generalize eC r = EC at *
  generalize validP r = V at *
  generalize lineP r = LP at *
  generalize wordP op = WP at *
  obtain ⟨q, o, p, g, d, al⟩ := r
  obtain ⟨q3, o3, p3, g3, d3, al3⟩ := Rz
  unfold Rec.v at *
  dsimp only at *
  have hb := (Below.refl w.heap.size w).alloc (Nat.le_refl _) (.cells #[.int .i64 q, .int .i64 o, .string ⟨p.toArray⟩, .string ⟨g.toArray⟩, .slice A n c, .bool al] 24)
  have HB := hide hb
  have HS := hide (hS.below hb)
  have HR := hide (rb hr hb)
  have HQ := hide (rb hb0 hb)
  have HX := hide (Blk.new w 24 #[.int .i64 q, .int .i64 o, .string ⟨p.toArray⟩, .string ⟨g.toArray⟩, .slice A n c, .bool al])
  clear hb hS hr hb0 hd
  obtain ⟨x0, x1, x2, x3, x4, x5⟩ := HX.out.six
  have hxl := HX.out.lt
  go_enter Tryd.func3, Tryd.ntmps3
  go_wp2_with fail
  with_reducible refine (XF.out _).mono ?_
  rintro e w1 ⟨rfl, hb⟩
  replace HX := hide (HX.out.below hb HX.out.lt)
  replace HR := hide (rb HR.out hb)
  replace HQ := hide (rb HQ.out hb)
  replace HB := hide (below_more HB.out (Nat.le_refl _) hb)
  replace HS := hide (HS.out.below hb)
  clear hb
  clear x0 x1 x2 x3 x4 x5 hxl
  obtain ⟨x0, x1, x2, x3, x4, x5⟩ := HX.out.six
  have hxl := HX.out.lt
  cases F with
  | false =>
    go_wp2_with fail
    with_reducible refine (heads_any _ HS.out).mono ?_
    rintro e wh ⟨rfl, hb⟩
    replace HB := hide (below_more HB.out (Nat.le_refl _) hb)
    clear hb
    go_wp2_with fail
    go_ret
    exact ⟨rfl, HB.out⟩
  | true =>
    by_cases hbig : m ≤ 2000
    · have HBIG := hide hbig
      go_wp2_with fail
      with_reducible refine (XE.out _ HS.out HR.out).mono ?_
      rintro e w2 ⟨A3, n3, c3, rfl, hR3, hb⟩
      have HR3 := hide hR3
      replace HX := hide (HX.out.below hb HX.out.lt)
      replace HR := hide (rb HR.out hb)
      replace HQ := hide (rb HQ.out hb)
      replace HB := hide (below_more HB.out (Nat.le_refl _) hb)
      replace HS := hide (HS.out.below hb)
      clear hb hR3
      clear x0 x1 x2 x3 x4 x5 hxl
      obtain ⟨x0, x1, x2, x3, x4, x5⟩ := HX.out.six
      have hxl := HX.out.lt
      go_wp2_with fail
      with_reducible refine (XRE.out _ HR.out).mono ?_
      rintro e w3 ⟨A4, n4, c4, rfl, hR4, hb⟩
      replace HR3 := hide (rb HR3.out hb)
      have HR4 := hide hR4
      replace HX := hide (HX.out.below hb HX.out.lt)
      replace HR := hide (rb HR.out hb)
      replace HQ := hide (rb HQ.out hb)
      replace HB := hide (below_more HB.out (Nat.le_refl _) hb)
      replace HS := hide (HS.out.below hb)
      clear hb hR4
      clear x0 x1 x2 x3 x4 x5 hxl
      obtain ⟨x0, x1, x2, x3, x4, x5⟩ := HX.out.six
      have hxl := HX.out.lt
      go_wp2_with fail
      with_reducible refine (XD.out _ (by omega) HQ.out HS.out).mono ?_
      rintro e w4 ⟨A5, n5, c5, rfl, hR5, _, _, hb⟩
      have HP := hide (Blk.new w4 24 #[.int .i64 q3, .int .i64 o3, .string ⟨p3.toArray⟩, .string ⟨g3.toArray⟩, .slice A5 n5 c5, .bool al3])
      have hba := (Below.refl w4.heap.size w4).alloc (Nat.le_refl _) (.cells #[.int .i64 q3, .int .i64 o3, .string ⟨p3.toArray⟩, .string ⟨g3.toArray⟩, .slice A5 n5 c5, .bool al3] 24)
      have HR5 := hide (rb hR5 hba)
      replace hb := below_more hb (Nat.le_refl _) hba
      replace HR3 := hide (rb HR3.out hb)
      replace HR4 := hide (rb HR4.out hb)
      replace HX := hide (HX.out.below hb HX.out.lt)
      replace HR := hide (rb HR.out hb)
      replace HQ := hide (rb HQ.out hb)
      replace HB := hide (below_more HB.out (Nat.le_refl _) hb)
      replace HS := hide (HS.out.below hb)
      clear hb hba hR5
      clear x0 x1 x2 x3 x4 x5 hxl
      obtain ⟨x0, x1, x2, x3, x4, x5⟩ := HX.out.six
      have hxl := HX.out.lt
      go_wp2_with fail
      with_reducible refine (XRD.out _ (by omega) HQ.out).mono ?_
      rintro e w5 ⟨A6, n6, c6, rfl, hR6, _, _, hb⟩
      have HT := hide (Blk.new w5 24 #[.int .i64 q3, .int .i64 o3, .string ⟨p3.toArray⟩, .string ⟨g3.toArray⟩, .slice A6 n6 c6, .bool al3])
      have hba := (Below.refl w5.heap.size w5).alloc (Nat.le_refl _) (.cells #[.int .i64 q3, .int .i64 o3, .string ⟨p3.toArray⟩, .string ⟨g3.toArray⟩, .slice A6 n6 c6, .bool al3] 24)
      have HR6 := hide (rb hR6 hba)
      replace hb := below_more hb (Nat.le_refl _) hba
      replace HR3 := hide (rb HR3.out hb)
      replace HR4 := hide (rb HR4.out hb)
      replace HR5 := hide (rb HR5.out hb)
      replace HP := hide (HP.out.below hb HP.out.lt)
      replace HX := hide (HX.out.below hb HX.out.lt)
      replace HR := hide (rb HR.out hb)
      replace HQ := hide (rb HQ.out hb)
      replace HB := hide (below_more HB.out (Nat.le_refl _) hb)
      replace HS := hide (HS.out.below hb)
      clear hb hba hR6
      clear x0 x1 x2 x3 x4 x5 hxl
      obtain ⟨x0, x1, x2, x3, x4, x5⟩ := HX.out.six
      have hxl := HX.out.lt
      clear XF XE XRE XD XRD
      have hxx : w.heap.size < w5.heap.size + 1 := by have := HX.out.lt; simpa using this
      go_upto_region 7 with (fail)
      obtain ⟨gp, hgp⟩ : ∃ x, w4.heap.size = x := ⟨_, rfl⟩
      obtain ⟨gq, hgq⟩ : ∃ x, w5.heap.size = x := ⟨_, rfl⟩
      rw [hgp] at HP
      rw [hgq] at HT
      simp only [hgp, hgq]
      clear hxx
      obtain ⟨y0, y1, y2, y3, y4, y5⟩ := HP.out.six
      obtain ⟨z0, z1, z2, z3, z4, z5⟩ := HT.out.six
      obtain ⟨WW, hWW⟩ : ∃ W, w5.alloc (.cells #[.int .i64 q3, .int .i64 o3, .string ⟨p3.toArray⟩, .string ⟨g3.toArray⟩, .slice A6 n6 c6, .bool al3] 24) = W := ⟨_, rfl⟩
      simp only [hWW] at *
      clear hgp hgq hWW
      have kW := hide (Below.refl WW.heap.size WW)
      have allS : Hid (∀ W, Below WW.heap.size WW W → (W.cell? ⟨w.heap.size, 0, none⟩ = some (.int .i64 q) ∧ W.cell? ⟨w.heap.size, 1, none⟩ = some (.int .i64 o) ∧ W.cell? ⟨w.heap.size, 2, none⟩ = some (.string ⟨p.toArray⟩) ∧ W.cell? ⟨w.heap.size, 3, none⟩ = some (.string ⟨g.toArray⟩) ∧ W.cell? ⟨w.heap.size, 4, none⟩ = some (.slice A n c) ∧ W.cell? ⟨w.heap.size, 5, none⟩ = some (.bool al)) ∧ (W.cell? ⟨gp, 0, none⟩ = some (.int .i64 q3) ∧ W.cell? ⟨gp, 1, none⟩ = some (.int .i64 o3) ∧ W.cell? ⟨gp, 2, none⟩ = some (.string ⟨p3.toArray⟩) ∧ W.cell? ⟨gp, 3, none⟩ = some (.string ⟨g3.toArray⟩) ∧ W.cell? ⟨gp, 4, none⟩ = some (.slice A5 n5 c5) ∧ W.cell? ⟨gp, 5, none⟩ = some (.bool al3)) ∧ (W.cell? ⟨gq, 0, none⟩ = some (.int .i64 q3) ∧ W.cell? ⟨gq, 1, none⟩ = some (.int .i64 o3) ∧ W.cell? ⟨gq, 2, none⟩ = some (.string ⟨p3.toArray⟩) ∧ W.cell? ⟨gq, 3, none⟩ = some (.string ⟨g3.toArray⟩) ∧ W.cell? ⟨gq, 4, none⟩ = some (.slice A6 n6 c6) ∧ W.cell? ⟨gq, 5, none⟩ = some (.bool al3))) := hide (fun W hk => by
        obtain ⟨x0, x1, x2, x3, x4, x5⟩ := (HX.out.below hk HX.out.lt).six
        obtain ⟨y0, y1, y2, y3, y4, y5⟩ := (HP.out.below hk HP.out.lt).six
        obtain ⟨z0, z1, z2, z3, z4, z5⟩ := (HT.out.below hk HT.out.lt).six
        exact ⟨⟨x0, x1, x2, x3, x4, x5⟩, ⟨y0, y1, y2, y3, y4, y5⟩, ⟨z0, z1, z2, z3, z4, z5⟩⟩)
      have hEE : (EB == EB) = true := by simp
      have YSM : Hid (∀ W, Below WW.heap.size WW W → Calls Tryd.prog 12 #[.slice A3 n3 c3, .slice A4 n4 c4] W fun e w' => e = .returned (.bool true) ∧ Below W.heap.size W w') := hide (fun W hk => (same_any A3 A4 n3 n4 c3 c4 EB EB W W.heap.size W.heap.size (rb HR3.out hk) (rb HR4.out hk)).mono fun e w' ⟨h1, h2⟩ => ⟨by rw [h1, hEE], by rw [h2]; exact Below.refl _ _⟩)
      have YS := hide (fun W (hk : Below WW.heap.size WW W) => XS.out W A5 n5 c5 A6 n6 c6 (rb HR5.out hk) (rb HR6.out hk))
      have YC := hide (fun W (hk : Below WW.heap.size WW W) => XC.out W (HS.out.below hk))
      have YRC := hide (fun W (hk : Below WW.heap.size WW W) => XRC.out W)
      have YL := hide (fun W (hk : Below WW.heap.size WW W) => XL.out W (HS.out.below hk) (rb HR.out hk))
      have YRL := hide (fun W (hk : Below WW.heap.size WW W) => XRL.out W (rb HR.out hk))
      have YW : Hid (∀ W, Below WW.heap.size WW W → Calls Tryd.prog 18 #[.int .i64 op] W fun e w' => e = .returned (.string ⟨WP.toArray⟩) ∧ Below W.heap.size W w') := hide (fun W hk => (XW.out W (HS.out.below hk)).mono fun e w' ⟨h1, h2⟩ => ⟨h1, by rw [h2]; exact Below.refl _ _⟩)
      have YRW : Hid (∀ W, Below WW.heap.size WW W → Calls Tryd.prog 19 #[.int .i64 op] W fun e w' => e = .returned (.string ⟨WP.toArray⟩) ∧ Below W.heap.size W w') := hide (fun W hk => (XRW.out W).mono fun e w' ⟨h1, h2⟩ => ⟨h1, by rw [h2]; exact Below.refl _ _⟩)
      have YH := hide (fun W (hk : Below WW.heap.size WW W) => heads_any W (HS.out.below hk))
      clear HX HP HT HR HR3 HR4 HR5 HR6 HS XS XC XRC XL XRL XW XRW HQ hEE HBIG
      go_region_held3 (fun V => (V.cell? ⟨w.heap.size, 0, none⟩ = some (.int .i64 q) ∧ V.cell? ⟨w.heap.size, 1, none⟩ = some (.int .i64 o) ∧ V.cell? ⟨w.heap.size, 2, none⟩ = some (.string ⟨p.toArray⟩) ∧ V.cell? ⟨w.heap.size, 3, none⟩ = some (.string ⟨g.toArray⟩) ∧ V.cell? ⟨w.heap.size, 4, none⟩ = some (.slice A n c) ∧ V.cell? ⟨w.heap.size, 5, none⟩ = some (.bool al)) ∧ (V.cell? ⟨gp, 0, none⟩ = some (.int .i64 q3) ∧ V.cell? ⟨gp, 1, none⟩ = some (.int .i64 o3) ∧ V.cell? ⟨gp, 2, none⟩ = some (.string ⟨p3.toArray⟩) ∧ V.cell? ⟨gp, 3, none⟩ = some (.string ⟨g3.toArray⟩) ∧ V.cell? ⟨gp, 4, none⟩ = some (.slice A5 n5 c5) ∧ V.cell? ⟨gp, 5, none⟩ = some (.bool al3)) ∧ (V.cell? ⟨gq, 0, none⟩ = some (.int .i64 q3) ∧ V.cell? ⟨gq, 1, none⟩ = some (.int .i64 o3) ∧ V.cell? ⟨gq, 2, none⟩ = some (.string ⟨p3.toArray⟩) ∧ V.cell? ⟨gq, 3, none⟩ = some (.string ⟨g3.toArray⟩) ∧ V.cell? ⟨gq, 4, none⟩ = some (.slice A6 n6 c6) ∧ V.cell? ⟨gq, 5, none⟩ = some (.bool al3)))
        (first | with_reducible exact allS.out _ (Below.drew kW.out) | with_reducible exact allS.out _ kW.out)
        (first
        | (go_at_call 12; with_reducible refine (YSM.out _ (Below.drew kW.out)).mono ?_
           rintro e wx ⟨rfl, kx⟩
           have kX := hide (below_more (Below.drew kW.out) (Nat.le_refl _) kx)
           clear kW
           have kW := hide kX.out
           clear kx kX)
        | (go_at_call 12; with_reducible refine (YSM.out _ kW.out).mono ?_
           rintro e wx ⟨rfl, kx⟩
           have kX := hide (below_more kW.out (Nat.le_refl _) kx)
           clear kW
           have kW := hide kX.out
           clear kx kX)
        | (go_at_call 13; with_reducible refine (YS.out _ (Below.drew kW.out)).mono ?_
           rintro e wx ⟨rfl, kx⟩
           have kX := hide (below_more (Below.drew kW.out) (Nat.le_refl _) kx)
           clear kW
           have kW := hide kX.out
           clear kx kX)
        | (go_at_call 13; with_reducible refine (YS.out _ kW.out).mono ?_
           rintro e wx ⟨rfl, kx⟩
           have kX := hide (below_more kW.out (Nat.le_refl _) kx)
           clear kW
           have kW := hide kX.out
           clear kx kX)
        | (go_at_call 14; with_reducible refine (YC.out _ (Below.drew kW.out)).mono ?_
           rintro e wx ⟨rfl, kx⟩
           have kX := hide (below_more (Below.drew kW.out) (Nat.le_refl _) kx)
           clear kW
           have kW := hide kX.out
           clear kx kX)
        | (go_at_call 14; with_reducible refine (YC.out _ kW.out).mono ?_
           rintro e wx ⟨rfl, kx⟩
           have kX := hide (below_more kW.out (Nat.le_refl _) kx)
           clear kW
           have kW := hide kX.out
           clear kx kX)
        | (go_at_call 15; with_reducible refine (YRC.out _ (Below.drew kW.out)).mono ?_
           rintro e wx ⟨rfl, kx⟩
           have kX := hide (below_more (Below.drew kW.out) (Nat.le_refl _) kx)
           clear kW
           have kW := hide kX.out
           clear kx kX)
        | (go_at_call 15; with_reducible refine (YRC.out _ kW.out).mono ?_
           rintro e wx ⟨rfl, kx⟩
           have kX := hide (below_more kW.out (Nat.le_refl _) kx)
           clear kW
           have kW := hide kX.out
           clear kx kX)
        | (go_at_call 16; with_reducible refine (YL.out _ (Below.drew kW.out)).mono ?_
           rintro e wx ⟨rfl, kx⟩
           have kX := hide (below_more (Below.drew kW.out) (Nat.le_refl _) kx)
           clear kW
           have kW := hide kX.out
           clear kx kX)
        | (go_at_call 16; with_reducible refine (YL.out _ kW.out).mono ?_
           rintro e wx ⟨rfl, kx⟩
           have kX := hide (below_more kW.out (Nat.le_refl _) kx)
           clear kW
           have kW := hide kX.out
           clear kx kX)
        | (go_at_call 17; with_reducible refine (YRL.out _ (Below.drew kW.out)).mono ?_
           rintro e wx ⟨rfl, kx⟩
           have kX := hide (below_more (Below.drew kW.out) (Nat.le_refl _) kx)
           clear kW
           have kW := hide kX.out
           clear kx kX)
        | (go_at_call 17; with_reducible refine (YRL.out _ kW.out).mono ?_
           rintro e wx ⟨rfl, kx⟩
           have kX := hide (below_more kW.out (Nat.le_refl _) kx)
           clear kW
           have kW := hide kX.out
           clear kx kX)
        | (go_at_call 18; with_reducible refine (YW.out _ (Below.drew kW.out)).mono ?_
           rintro e wx ⟨rfl, kx⟩
           have kX := hide (below_more (Below.drew kW.out) (Nat.le_refl _) kx)
           clear kW
           have kW := hide kX.out
           clear kx kX)
        | (go_at_call 18; with_reducible refine (YW.out _ kW.out).mono ?_
           rintro e wx ⟨rfl, kx⟩
           have kX := hide (below_more kW.out (Nat.le_refl _) kx)
           clear kW
           have kW := hide kX.out
           clear kx kX)
        | (go_at_call 19; with_reducible refine (YRW.out _ (Below.drew kW.out)).mono ?_
           rintro e wx ⟨rfl, kx⟩
           have kX := hide (below_more (Below.drew kW.out) (Nat.le_refl _) kx)
           clear kW
           have kW := hide kX.out
           clear kx kX)
        | (go_at_call 19; with_reducible refine (YRW.out _ kW.out).mono ?_
           rintro e wx ⟨rfl, kx⟩
           have kX := hide (below_more kW.out (Nat.le_refl _) kx)
           clear kW
           have kW := hide kX.out
           clear kx kX)
        | (go_at_call 7; with_reducible refine (YH.out _ (Below.drew kW.out)).mono ?_
           rintro e wx ⟨rfl, kx⟩
           have kX := hide (below_more (Below.drew kW.out) (Nat.le_refl _) kx)
           clear kW
           have kW := hide kX.out
           clear kx kX)
        | (go_at_call 7; with_reducible refine (YH.out _ kW.out).mono ?_
           rintro e wx ⟨rfl, kx⟩
           have kX := hide (below_more kW.out (Nat.le_refl _) kx)
           clear kW
           have kW := hide kX.out
           clear kx kX))
      all_goals
        go_wp2
        go_ret
        exact ⟨rfl, below_more HB.out (Nat.le_refl _) kW.out⟩
    · have hbig2 : ¬ (m : Int) ≤ 2000 := by omega
      go_wp2_with fail
      with_reducible refine (heads_any _ HS.out).mono ?_
      rintro e wh ⟨rfl, hb⟩
      replace HB := hide (below_more HB.out (Nat.le_refl _) hb)
      clear hb
      go_wp2_with fail
      go_ret
      exact ⟨rfl, HB.out⟩
end Go.Proofs.YtabbkhkkhphgdaaDoor
