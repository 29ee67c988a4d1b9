/- proto.checkRep. -/
import Derived.Test.YtedacfjkbfgikaaPrC
import Derived.Test.YtedacfjkbfgikaaPrS
import Derived.Test.YtedacfjkbfgikaaPrR
import Derived.Test.YtedacfjkbfgikaaMem
import Derived.Deep.DeepCutAuto
namespace Go.Proofs.Ytedacfjkbfgikaa
open Go.RowKit
set_option linter.unusedVariables false
def RP.v (r : RP) (D A : Option Addr) (dn dc an ac : Nat) : Value := .agg #[.int .i64 r.err, .int .i64 r.h, .int .i64 r.h2, .int .i64 r.n, .slice D dn dc, .slice A an ac]
def RP.used (r : RP) : Int := usedR r.h r.h2 r.n r.d.length r.names.length
def RP.eff (u : Int) (r : RP) : Int := if r.err = 0 then u else 0
def RP.ok (u : Int) (r : RP) : Bool := (decide (0 ≤ r.err) && decide (r.err ≤ 255)) && (bits .andNot .i64 r.used (r.eff u) == 0) && (wideP r.h && wideP r.h2 && wideP r.n) && (decide (r.d.length ≤ 2048) && decide (r.names.length ≤ 255) && !anyL 32 r.names)
theorem blk6 {w : World} {g : Nat} {t : TypeId} {a0 a1 a2 a3 a4 a5 : Value} (H : Blk w g t #[a0, a1, a2, a3, a4, a5]) : w.cell? ⟨g, 0, none⟩ = some a0 ∧ w.cell? ⟨g, 1, none⟩ = some a1 ∧ w.cell? ⟨g, 2, none⟩ = some a2 ∧ w.cell? ⟨g, 3, none⟩ = some a3 ∧ w.cell? ⟨g, 4, none⟩ = some a4 ∧ w.cell? ⟨g, 5, none⟩ = some a5 :=
  ⟨H.cell 0, H.cell 1, H.cell 2, H.cell 3, H.cell 4, H.cell 5⟩
set_option maxRecDepth 100000 in
set_option maxHeartbeats 8000000 in
theorem checkr_any (u : Int) (r : RP) (D A : Option Addr) (dn dc an ac : Nat) (w : World) (h4 : Reads w w.heap.size 1 A an (svs r.names)) (hdl : r.d.length = dn) (hn : dn ≤ 100000 ∧ an ≤ 1000) :
    Calls Try.prog 74 #[.int .i64 u, r.v D A dn dc an ac] w fun e w' => e = .returned (.bool (r.ok u)) ∧ Below w.heap.size w w' := by
  have hal : r.names.length = an := by simpa [svs] using h4.1
  unfold RP.v RP.ok RP.used RP.eff
  rw [hdl, hal]
  obtain ⟨err, h, h2, n, d, names⟩ := r
  dsimp only at *
  have H4 := hide h4
  have XU := hide (fun V => usedr_any err h h2 n D A dn dc an ac V)
  generalize usedR h h2 n dn an = U at *
  clear h4 hdl hal
  have hb := (Below.refl w.heap.size w).alloc (Nat.le_refl _) (.cells #[.int .i64 err, .int .i64 h, .int .i64 h2, .int .i64 n, .slice D dn dc, .slice A an ac] 43)
  have hk := Blk.new w 43 #[.int .i64 err, .int .i64 h, .int .i64 h2, .int .i64 n, .slice D dn dc, .slice A an ac]
  have HB := hide hb
  have HK := hide hk
  have hlt := hk.lt
  obtain ⟨x0, x1, x2, x3, x4, x5⟩ := blk6 hk
  clear hb hk
  by_cases he0 : err < 0
  · have hf : decide (0 ≤ err) = false := by simp; omega
    go_enter Try.func74, Try.ntmps74
    go_wp2_with fail
    go_ret
    exact ⟨by first | rfl | (rw [hf]; simp), HB.out⟩
  · by_cases he1 : 255 < err
    · have hf : decide (err ≤ 255) = false := by simp; omega
      go_enter Try.func74, Try.ntmps74
      go_wp2_with fail
      go_ret
      exact ⟨by first | rfl | (rw [hf]; simp), HB.out⟩
    · have HF : Hid ((decide (0 ≤ err) && decide (err ≤ 255)) = true) := hide (by simp; omega)
      obtain ⟨u', hu', hz⟩ : ∃ u', (if err = 0 then u else 0) = u' ∧ ((err = 0 ∧ u' = u) ∨ (err ≠ 0 ∧ u' = 0)) := by
        by_cases h : err = 0
        · exact ⟨u, by simp [h], .inl ⟨h, rfl⟩⟩
        · exact ⟨0, by simp [h], .inr ⟨h, rfl⟩⟩
      rw [hu', HF.out]
      clear HF hu'
      rcases hz with ⟨rfl, rfl⟩ | ⟨hz, rfl⟩
      · by_cases hu : bits .andNot .i64 U u' = 0
        · have XH := hide (fun V => range_any h V)
          have XH2 := hide (fun V => range_any h2 V)
          have XN := hide (fun V => range_any n V)
          cases hw : wideP h with
          | false =>
            rw [hw] at XH
            go_enter Try.func74, Try.ntmps74
            go_wp2_with fail
            refine (XU.out _).mono ?_
            rintro e w1 ⟨rfl, hb1⟩
            have HB1 := hide (below_more HB.out (Nat.le_refl _) hb1)
            have HK1 := hide (HK.out.below hb1 HK.out.lt)
            have hl1 := HK1.out.lt
            clear hb1 x0 x1 x2 x3 x4 x5 HB HK
            obtain ⟨y0, y1, y2, y3, y4, y5⟩ := blk6 HK1.out
            go_wp2_with fail
            refine (XH.out _).mono ?_
            rintro e w2 ⟨rfl, rfl⟩
            go_wp2_with fail
            go_ret
            exact ⟨by first | rfl | simp, HB1.out⟩
          | true =>
            rw [hw] at XH
            cases hw2 : wideP h2 with
            | false =>
              rw [hw2] at XH2
              go_enter Try.func74, Try.ntmps74
              go_wp2_with fail
              refine (XU.out _).mono ?_
              rintro e w1 ⟨rfl, hb1⟩
              have HB1 := hide (below_more HB.out (Nat.le_refl _) hb1)
              have HK1 := hide (HK.out.below hb1 HK.out.lt)
              have hl1 := HK1.out.lt
              clear hb1 x0 x1 x2 x3 x4 x5 HB HK
              obtain ⟨y0, y1, y2, y3, y4, y5⟩ := blk6 HK1.out
              go_wp2_with fail
              refine (XH.out _).mono ?_
              rintro e w2 ⟨rfl, rfl⟩
              go_wp2_with fail
              refine (XH2.out _).mono ?_
              rintro e w2 ⟨rfl, rfl⟩
              go_wp2_with fail
              go_ret
              exact ⟨by first | rfl | simp, HB1.out⟩
            | true =>
              rw [hw2] at XH2
              cases hwn : wideP n with
              | false =>
                rw [hwn] at XN
                go_enter Try.func74, Try.ntmps74
                go_wp2_with fail
                refine (XU.out _).mono ?_
                rintro e w1 ⟨rfl, hb1⟩
                have HB1 := hide (below_more HB.out (Nat.le_refl _) hb1)
                have HK1 := hide (HK.out.below hb1 HK.out.lt)
                have hl1 := HK1.out.lt
                clear hb1 x0 x1 x2 x3 x4 x5 HB HK
                obtain ⟨y0, y1, y2, y3, y4, y5⟩ := blk6 HK1.out
                go_wp2_with fail
                refine (XH.out _).mono ?_
                rintro e w2 ⟨rfl, rfl⟩
                go_wp2_with fail
                refine (XH2.out _).mono ?_
                rintro e w2 ⟨rfl, rfl⟩
                go_wp2_with fail
                refine (XN.out _).mono ?_
                rintro e w2 ⟨rfl, rfl⟩
                go_wp2_with fail
                go_ret
                exact ⟨by first | rfl | simp, HB1.out⟩
              | true =>
                rw [hwn] at XN
                have HU0 := hide hu
                go_enter Try.func74, Try.ntmps74
                go_wp2_with fail
                refine (XU.out _).mono ?_
                rintro e w1 ⟨rfl, hb1⟩
                have HB1 := hide (below_more HB.out (Nat.le_refl _) hb1)
                have HK1 := hide (HK.out.below hb1 HK.out.lt)
                have hl1 := HK1.out.lt
                clear hb1 x0 x1 x2 x3 x4 x5 HB HK
                obtain ⟨y0, y1, y2, y3, y4, y5⟩ := blk6 HK1.out
                go_wp2_with fail
                refine (XH.out _).mono ?_
                rintro e w2 ⟨rfl, rfl⟩
                go_wp2_with fail
                refine (XH2.out _).mono ?_
                rintro e w2 ⟨rfl, rfl⟩
                go_wp2_with fail
                refine (XN.out _).mono ?_
                rintro e w2 ⟨rfl, rfl⟩
                clear XH XH2 XN XU
                go_upto_region 7 with (fail)
                have HBS := HB1.out.size
                have H41 := hide ((H4.out.below HB1.out).more HBS)
                have allS : Hid (∀ V, Below w1.heap.size w1 V → V.cell? ⟨w.heap.size, 4, none⟩ = some (.slice D dn dc) ∧ V.cell? ⟨w.heap.size, 5, none⟩ = some (.slice A an ac)) := hide (fun V hV => ⟨(hV.cell (p := ⟨w.heap.size, 4, none⟩) hl1).trans y4, (hV.cell (p := ⟨w.heap.size, 5, none⟩) hl1).trans y5⟩)
                clear hu hw hw2 hwn
                by_cases hd : (dn : Int) ≤ 2048
                · by_cases ha : (an : Int) ≤ 255
                  · have hd1 : decide ((dn : Int) ≤ 2048) = true := by simp [hd]
                    have ha1 : decide ((an : Int) ≤ 255) = true := by simp [ha]
                    have hd2 : dn ≤ 2048 := by omega
                    have ha2 : an ≤ 255 := by omega
                    have XL := hide (fun V => longerf_any 32 V)
                    have XF : Hid (∀ g W, Blk W g 3 #[.int .i64 32] → Below w1.heap.size w1 W → Calls Try.prog 67 #[.slice A an ac, .func (.func 101) #[] #[.pointer (some ⟨g, 0, none⟩)]] W fun e w' => e = .returned (.bool (anyL 32 names)) ∧ W = w') := hide (fun g W hk hW => containsf_any g 32 names A an ac W hk ((H41.out.below hW).more hW.size) (by omega))
                    have kW := hide (Below.refl w1.heap.size w1)
                    clear y0 y1 y2 y3 y4 y5
                    go_region_held3 (fun V => V.cell? ⟨w.heap.size, 4, none⟩ = some (.slice D dn dc) ∧ V.cell? ⟨w.heap.size, 5, none⟩ = some (.slice A an ac))
                      (first | with_reducible exact allS.out _ (Below.drew kW.out) | with_reducible exact allS.out _ kW.out)
                      (first
                        | (go_at_call 69; with_reducible refine (XL.out _).mono ?_
                           rintro e wx ⟨rfl, kb, kx⟩
                           have kX := hide (below_more (Below.drew kW.out) (Nat.le_refl _) kx)
                           have HBX : Hid (Blk wx w1.heap.size 3 #[.int .i64 32]) := hide kb
                           clear kW
                           have kW := hide kX.out
                           clear kx kX kb)
                        | (go_at_call 67; with_reducible refine (XF.out w1.heap.size _ HBX.out kW.out).mono ?_
                           rintro e wx ⟨rfl, rfl⟩))
                    all_goals
                      go_wp2_with fail
                      go_ret
                      exact ⟨by first | rfl | simp [hd2, ha2, HU0.out], HB1.out.trans (kW.out.mono HBS)⟩
                  · have hd1 : decide ((dn : Int) ≤ 2048) = true := by simp [hd]
                    have ha1 : decide ((an : Int) ≤ 255) = false := by simp [ha]
                    have ha2 : ¬ an ≤ 255 := by omega
                    have ha3 : decide ((255 : Int) < (an : Int)) = true := by simp; omega
                    refine wp_region_M (fun V => V.cell? ⟨w.heap.size, 4, none⟩ = some (.slice D dn dc) ∧ V.cell? ⟨w.heap.size, 5, none⟩ = some (.slice A an ac)) 17 rfl ⟨y4, y5⟩ (fun hHeld => ?_)
                    refine wpAnyM_take (i := 0) (v := ?_) rfl rfl (by kernel_rfl) (fun _ _ _ h => h) (Or.inl ⟨by rfl, ?_⟩) (by assumption) ?_
                    rotate_left
                    · (intro V hV; (try dsimp only at hV); go_simp; with_reducible rfl)
                    try simp only [Act.put, List.setIfInBounds_toArray, List.set_cons_zero, List.set_cons_succ]
                    refine wpAnyM_take (i := 1) (v := ?_) rfl rfl (by kernel_rfl) (fun _ _ _ h => h) (Or.inl ⟨by rfl, ?_⟩) (by assumption) ?_
                    rotate_left
                    · (intro V hV; (try dsimp only at hV); go_simp; with_reducible rfl)
                    try simp only [Act.put, List.setIfInBounds_toArray, List.set_cons_zero, List.set_cons_succ]
                    refine wpAnyM_take (i := 2) (v := ?_) rfl rfl (by kernel_rfl) (fun _ _ _ h => h) (Or.inl ⟨by rfl, ?_⟩) (by assumption) ?_
                    rotate_left
                    · (intro V hV; (try dsimp only at hV); go_simp; with_reducible rfl)
                    try simp only [Act.put, List.setIfInBounds_toArray, List.set_cons_zero, List.set_cons_succ]
                    refine wpAnyM_take (i := 3) (v := ?_) rfl rfl (by kernel_rfl) (fun _ _ _ h => h) (Or.inl ⟨by rfl, ?_⟩) (by assumption) ?_
                    rotate_left
                    · (intro V hV; (try dsimp only at hV); go_simp; with_reducible rfl)
                    try simp only [Act.put, List.setIfInBounds_toArray, List.set_cons_zero, List.set_cons_succ]
                    refine wpAnyM_take (i := 4) (v := ?_) rfl rfl (by kernel_rfl) (fun _ _ _ h => h) (Or.inl ⟨by rfl, ?_⟩) (by assumption) ?_
                    rotate_left
                    · (intro V hV; (try dsimp only at hV); go_simp; with_reducible rfl)
                    try simp only [Act.put, List.setIfInBounds_toArray, List.set_cons_zero, List.set_cons_succ]
                    refine wpAnyM_take (i := 5) (v := ?_) rfl rfl (by kernel_rfl) (fun _ _ _ h => h) (Or.inl ⟨by rfl, ?_⟩) (by assumption) ?_
                    rotate_left
                    · (intro V hV; (try dsimp only at hV); go_simp; with_reducible rfl)
                    try simp only [Act.put, List.setIfInBounds_toArray, List.set_cons_zero, List.set_cons_succ]
                    refine wpAnyM_take (i := 6) (v := ?_) rfl rfl (by kernel_rfl) (fun _ _ _ h => h) (Or.inl ⟨by rfl, ?_⟩) (by assumption) ?_
                    rotate_left
                    · (intro V hV; (try dsimp only at hV); go_simp; with_reducible rfl)
                    try simp only [Act.put, List.setIfInBounds_toArray, List.set_cons_zero, List.set_cons_succ]
                    refine wpAnyM_take (i := 7) (v := ?_) rfl rfl (by kernel_rfl) (fun _ _ _ h => h) (Or.inl ⟨by rfl, ?_⟩) (by assumption) ?_
                    rotate_left
                    · (intro V hV; (try dsimp only at hV); go_simp; with_reducible rfl)
                    try simp only [Act.put, List.setIfInBounds_toArray, List.set_cons_zero, List.set_cons_succ]
                    refine wpAnyM_take (i := 8) (v := ?_) rfl rfl (by kernel_rfl) (fun _ _ _ h => h) (Or.inl ⟨by rfl, ?_⟩) (by assumption) ?_
                    rotate_left
                    · (intro V hV; (try dsimp only at hV); go_simp; with_reducible rfl)
                    try simp only [Act.put, List.setIfInBounds_toArray, List.set_cons_zero, List.set_cons_succ]
                    refine wpAnyM_take (i := 9) (v := ?_) rfl rfl (by kernel_rfl) (fun _ _ _ h => h) (Or.inl ⟨by rfl, ?_⟩) (by assumption) ?_
                    rotate_left
                    · (intro V hV; (try dsimp only at hV); go_simp; with_reducible rfl)
                    try simp only [Act.put, List.setIfInBounds_toArray, List.set_cons_zero, List.set_cons_succ]
                    refine wpAnyM_take (i := 10) (v := ?_) rfl rfl (by kernel_rfl) (fun _ _ _ h => h) (Or.inl ⟨by rfl, ?_⟩) (by assumption) ?_
                    rotate_left
                    · (intro V hV; (try dsimp only at hV); go_simp; with_reducible rfl)
                    try simp only [Act.put, List.setIfInBounds_toArray, List.set_cons_zero, List.set_cons_succ]
                    refine wpAnyM_take (i := 11) (v := undef) rfl rfl (by kernel_rfl) (fun _ _ _ h => h) (Or.inr ⟨by rfl, rfl⟩) (by assumption) ?_
                    try simp only [Act.put, List.setIfInBounds_toArray, List.set_cons_zero, List.set_cons_succ]
                    refine wpAnyM_take (i := 12) (v := undef) rfl rfl (by kernel_rfl) (fun _ _ _ h => h) (Or.inr ⟨by rfl, rfl⟩) (by assumption) ?_
                    try simp only [Act.put, List.setIfInBounds_toArray, List.set_cons_zero, List.set_cons_succ]
                    refine wpAnyM_take (i := 13) (v := undef) rfl rfl (by kernel_rfl) (fun _ _ _ h => h) (Or.inr ⟨by rfl, rfl⟩) (by assumption) ?_
                    try simp only [Act.put, List.setIfInBounds_toArray, List.set_cons_zero, List.set_cons_succ]
                    refine wpAnyM_take (i := 14) (v := undef) rfl rfl (by kernel_rfl) (fun _ _ _ h => h) (Or.inr ⟨by rfl, rfl⟩) (by assumption) ?_
                    try simp only [Act.put, List.setIfInBounds_toArray, List.set_cons_zero, List.set_cons_succ]
                    refine wpAnyM_take (i := 15) (v := undef) rfl rfl (by kernel_rfl) (fun _ _ _ h => h) (Or.inr ⟨by rfl, rfl⟩) (by assumption) ?_
                    try simp only [Act.put, List.setIfInBounds_toArray, List.set_cons_zero, List.set_cons_succ]
                    refine wpAnyM_take (i := 16) (v := ?_) rfl rfl (by kernel_rfl) (fun _ _ _ h => h) (Or.inl ⟨by rfl, ?_⟩) (by assumption) ?_
                    rotate_left
                    · (intro V hV; (try dsimp only at hV); go_simp; with_reducible rfl)
                    try simp only [Act.put, List.setIfInBounds_toArray, List.set_cons_zero, List.set_cons_succ]
                    refine wpAnyM_step (i := 17) (by kernel_rfl) rfl rfl (fun K hK => ?_)
                    go_simp
                    refine hK.out _ _ (fun h => absurd rfl h) ?_
                    refine wpAnyM_done (by kernel_rfl) ?_ _
                    clear hK K hHeld
                    go_wp2_with fail
                    go_ret
                    exact ⟨by first | rfl | simp [ha2], below_drewP HB1.out 1⟩
                · have hd1 : decide ((dn : Int) ≤ 2048) = false := by simp [hd]
                  have hd2 : ¬ dn ≤ 2048 := by omega
                  have hd3 : decide ((2048 : Int) < (dn : Int)) = true := by simp; omega
                  refine wp_region_M (fun V => V.cell? ⟨w.heap.size, 4, none⟩ = some (.slice D dn dc) ∧ V.cell? ⟨w.heap.size, 5, none⟩ = some (.slice A an ac)) 17 rfl ⟨y4, y5⟩ (fun hHeld => ?_)
                  refine wpAnyM_take (i := 0) (v := ?_) rfl rfl (by kernel_rfl) (fun _ _ _ h => h) (Or.inl ⟨by rfl, ?_⟩) (by assumption) ?_
                  rotate_left
                  · (intro V hV; (try dsimp only at hV); go_simp; with_reducible rfl)
                  try simp only [Act.put, List.setIfInBounds_toArray, List.set_cons_zero, List.set_cons_succ]
                  refine wpAnyM_take (i := 1) (v := ?_) rfl rfl (by kernel_rfl) (fun _ _ _ h => h) (Or.inl ⟨by rfl, ?_⟩) (by assumption) ?_
                  rotate_left
                  · (intro V hV; (try dsimp only at hV); go_simp; with_reducible rfl)
                  try simp only [Act.put, List.setIfInBounds_toArray, List.set_cons_zero, List.set_cons_succ]
                  refine wpAnyM_take (i := 2) (v := ?_) rfl rfl (by kernel_rfl) (fun _ _ _ h => h) (Or.inl ⟨by rfl, ?_⟩) (by assumption) ?_
                  rotate_left
                  · (intro V hV; (try dsimp only at hV); go_simp; with_reducible rfl)
                  try simp only [Act.put, List.setIfInBounds_toArray, List.set_cons_zero, List.set_cons_succ]
                  refine wpAnyM_take (i := 3) (v := ?_) rfl rfl (by kernel_rfl) (fun _ _ _ h => h) (Or.inl ⟨by rfl, ?_⟩) (by assumption) ?_
                  rotate_left
                  · (intro V hV; (try dsimp only at hV); go_simp; with_reducible rfl)
                  try simp only [Act.put, List.setIfInBounds_toArray, List.set_cons_zero, List.set_cons_succ]
                  refine wpAnyM_take (i := 4) (v := ?_) rfl rfl (by kernel_rfl) (fun _ _ _ h => h) (Or.inl ⟨by rfl, ?_⟩) (by assumption) ?_
                  rotate_left
                  · (intro V hV; (try dsimp only at hV); go_simp; with_reducible rfl)
                  try simp only [Act.put, List.setIfInBounds_toArray, List.set_cons_zero, List.set_cons_succ]
                  refine wpAnyM_take (i := 5) (v := undef) rfl rfl (by kernel_rfl) (fun _ _ _ h => h) (Or.inr ⟨by rfl, rfl⟩) (by assumption) ?_
                  try simp only [Act.put, List.setIfInBounds_toArray, List.set_cons_zero, List.set_cons_succ]
                  refine wpAnyM_take (i := 6) (v := undef) rfl rfl (by kernel_rfl) (fun _ _ _ h => h) (Or.inr ⟨by rfl, rfl⟩) (by assumption) ?_
                  try simp only [Act.put, List.setIfInBounds_toArray, List.set_cons_zero, List.set_cons_succ]
                  refine wpAnyM_take (i := 7) (v := undef) rfl rfl (by kernel_rfl) (fun _ _ _ h => h) (Or.inr ⟨by rfl, rfl⟩) (by assumption) ?_
                  try simp only [Act.put, List.setIfInBounds_toArray, List.set_cons_zero, List.set_cons_succ]
                  refine wpAnyM_take (i := 8) (v := undef) rfl rfl (by kernel_rfl) (fun _ _ _ h => h) (Or.inr ⟨by rfl, rfl⟩) (by assumption) ?_
                  try simp only [Act.put, List.setIfInBounds_toArray, List.set_cons_zero, List.set_cons_succ]
                  refine wpAnyM_take (i := 9) (v := ?_) rfl rfl (by kernel_rfl) (fun _ _ _ h => h) (Or.inl ⟨by rfl, ?_⟩) (by assumption) ?_
                  rotate_left
                  · (intro V hV; (try dsimp only at hV); go_simp; with_reducible rfl)
                  try simp only [Act.put, List.setIfInBounds_toArray, List.set_cons_zero, List.set_cons_succ]
                  refine wpAnyM_take (i := 10) (v := ?_) rfl rfl (by kernel_rfl) (fun _ _ _ h => h) (Or.inl ⟨by rfl, ?_⟩) (by assumption) ?_
                  rotate_left
                  · (intro V hV; (try dsimp only at hV); go_simp; with_reducible rfl)
                  try simp only [Act.put, List.setIfInBounds_toArray, List.set_cons_zero, List.set_cons_succ]
                  refine wpAnyM_take (i := 11) (v := undef) rfl rfl (by kernel_rfl) (fun _ _ _ h => h) (Or.inr ⟨by rfl, rfl⟩) (by assumption) ?_
                  try simp only [Act.put, List.setIfInBounds_toArray, List.set_cons_zero, List.set_cons_succ]
                  refine wpAnyM_take (i := 12) (v := undef) rfl rfl (by kernel_rfl) (fun _ _ _ h => h) (Or.inr ⟨by rfl, rfl⟩) (by assumption) ?_
                  try simp only [Act.put, List.setIfInBounds_toArray, List.set_cons_zero, List.set_cons_succ]
                  refine wpAnyM_take (i := 13) (v := undef) rfl rfl (by kernel_rfl) (fun _ _ _ h => h) (Or.inr ⟨by rfl, rfl⟩) (by assumption) ?_
                  try simp only [Act.put, List.setIfInBounds_toArray, List.set_cons_zero, List.set_cons_succ]
                  refine wpAnyM_take (i := 14) (v := undef) rfl rfl (by kernel_rfl) (fun _ _ _ h => h) (Or.inr ⟨by rfl, rfl⟩) (by assumption) ?_
                  try simp only [Act.put, List.setIfInBounds_toArray, List.set_cons_zero, List.set_cons_succ]
                  refine wpAnyM_take (i := 15) (v := undef) rfl rfl (by kernel_rfl) (fun _ _ _ h => h) (Or.inr ⟨by rfl, rfl⟩) (by assumption) ?_
                  try simp only [Act.put, List.setIfInBounds_toArray, List.set_cons_zero, List.set_cons_succ]
                  refine wpAnyM_take (i := 16) (v := ?_) rfl rfl (by kernel_rfl) (fun _ _ _ h => h) (Or.inl ⟨by rfl, ?_⟩) (by assumption) ?_
                  rotate_left
                  · (intro V hV; (try dsimp only at hV); go_simp; with_reducible rfl)
                  try simp only [Act.put, List.setIfInBounds_toArray, List.set_cons_zero, List.set_cons_succ]
                  refine wpAnyM_step (i := 17) (by kernel_rfl) rfl rfl (fun K hK => ?_)
                  go_simp
                  refine hK.out _ _ (fun h => absurd rfl h) ?_
                  refine wpAnyM_done (by kernel_rfl) ?_ _
                  clear hK K hHeld
                  go_wp2_with fail
                  go_ret
                  exact ⟨by first | rfl | simp [hd2], below_drewP HB1.out 1⟩
        · go_enter Try.func74, Try.ntmps74
          go_wp2_with fail
          refine (XU.out _).mono ?_
          rintro e w1 ⟨rfl, hb1⟩
          have HB1 := hide (below_more HB.out (Nat.le_refl _) hb1)
          have HK1 := hide (HK.out.below hb1 HK.out.lt)
          have hl1 := HK1.out.lt
          clear hb1 x0 x1 x2 x3 x4 x5 HB HK
          obtain ⟨y0, y1, y2, y3, y4, y5⟩ := blk6 HK1.out
          go_wp2_with fail
          go_ret
          exact ⟨by first | rfl | simp [hu], HB1.out⟩
      · by_cases hu : bits .andNot .i64 U 0 = 0
        · have XH := hide (fun V => range_any h V)
          have XH2 := hide (fun V => range_any h2 V)
          have XN := hide (fun V => range_any n V)
          cases hw : wideP h with
          | false =>
            rw [hw] at XH
            go_enter Try.func74, Try.ntmps74
            go_wp2_with fail
            refine (XU.out _).mono ?_
            rintro e w1 ⟨rfl, hb1⟩
            have HB1 := hide (below_more HB.out (Nat.le_refl _) hb1)
            have HK1 := hide (HK.out.below hb1 HK.out.lt)
            have hl1 := HK1.out.lt
            clear hb1 x0 x1 x2 x3 x4 x5 HB HK
            obtain ⟨y0, y1, y2, y3, y4, y5⟩ := blk6 HK1.out
            go_wp2_with fail
            refine (XH.out _).mono ?_
            rintro e w2 ⟨rfl, rfl⟩
            go_wp2_with fail
            go_ret
            exact ⟨by first | rfl | simp, HB1.out⟩
          | true =>
            rw [hw] at XH
            cases hw2 : wideP h2 with
            | false =>
              rw [hw2] at XH2
              go_enter Try.func74, Try.ntmps74
              go_wp2_with fail
              refine (XU.out _).mono ?_
              rintro e w1 ⟨rfl, hb1⟩
              have HB1 := hide (below_more HB.out (Nat.le_refl _) hb1)
              have HK1 := hide (HK.out.below hb1 HK.out.lt)
              have hl1 := HK1.out.lt
              clear hb1 x0 x1 x2 x3 x4 x5 HB HK
              obtain ⟨y0, y1, y2, y3, y4, y5⟩ := blk6 HK1.out
              go_wp2_with fail
              refine (XH.out _).mono ?_
              rintro e w2 ⟨rfl, rfl⟩
              go_wp2_with fail
              refine (XH2.out _).mono ?_
              rintro e w2 ⟨rfl, rfl⟩
              go_wp2_with fail
              go_ret
              exact ⟨by first | rfl | simp, HB1.out⟩
            | true =>
              rw [hw2] at XH2
              cases hwn : wideP n with
              | false =>
                rw [hwn] at XN
                go_enter Try.func74, Try.ntmps74
                go_wp2_with fail
                refine (XU.out _).mono ?_
                rintro e w1 ⟨rfl, hb1⟩
                have HB1 := hide (below_more HB.out (Nat.le_refl _) hb1)
                have HK1 := hide (HK.out.below hb1 HK.out.lt)
                have hl1 := HK1.out.lt
                clear hb1 x0 x1 x2 x3 x4 x5 HB HK
                obtain ⟨y0, y1, y2, y3, y4, y5⟩ := blk6 HK1.out
                go_wp2_with fail
                refine (XH.out _).mono ?_
                rintro e w2 ⟨rfl, rfl⟩
                go_wp2_with fail
                refine (XH2.out _).mono ?_
                rintro e w2 ⟨rfl, rfl⟩
                go_wp2_with fail
                refine (XN.out _).mono ?_
                rintro e w2 ⟨rfl, rfl⟩
                go_wp2_with fail
                go_ret
                exact ⟨by first | rfl | simp, HB1.out⟩
              | true =>
                rw [hwn] at XN
                have HU0 := hide hu
                go_enter Try.func74, Try.ntmps74
                go_wp2_with fail
                refine (XU.out _).mono ?_
                rintro e w1 ⟨rfl, hb1⟩
                have HB1 := hide (below_more HB.out (Nat.le_refl _) hb1)
                have HK1 := hide (HK.out.below hb1 HK.out.lt)
                have hl1 := HK1.out.lt
                clear hb1 x0 x1 x2 x3 x4 x5 HB HK
                obtain ⟨y0, y1, y2, y3, y4, y5⟩ := blk6 HK1.out
                go_wp2_with fail
                refine (XH.out _).mono ?_
                rintro e w2 ⟨rfl, rfl⟩
                go_wp2_with fail
                refine (XH2.out _).mono ?_
                rintro e w2 ⟨rfl, rfl⟩
                go_wp2_with fail
                refine (XN.out _).mono ?_
                rintro e w2 ⟨rfl, rfl⟩
                clear XH XH2 XN XU
                go_upto_region 7 with (fail)
                have HBS := HB1.out.size
                have H41 := hide ((H4.out.below HB1.out).more HBS)
                have allS : Hid (∀ V, Below w1.heap.size w1 V → V.cell? ⟨w.heap.size, 4, none⟩ = some (.slice D dn dc) ∧ V.cell? ⟨w.heap.size, 5, none⟩ = some (.slice A an ac)) := hide (fun V hV => ⟨(hV.cell (p := ⟨w.heap.size, 4, none⟩) hl1).trans y4, (hV.cell (p := ⟨w.heap.size, 5, none⟩) hl1).trans y5⟩)
                clear hu hw hw2 hwn
                by_cases hd : (dn : Int) ≤ 2048
                · by_cases ha : (an : Int) ≤ 255
                  · have hd1 : decide ((dn : Int) ≤ 2048) = true := by simp [hd]
                    have ha1 : decide ((an : Int) ≤ 255) = true := by simp [ha]
                    have hd2 : dn ≤ 2048 := by omega
                    have ha2 : an ≤ 255 := by omega
                    have XL := hide (fun V => longerf_any 32 V)
                    have XF : Hid (∀ g W, Blk W g 3 #[.int .i64 32] → Below w1.heap.size w1 W → Calls Try.prog 67 #[.slice A an ac, .func (.func 101) #[] #[.pointer (some ⟨g, 0, none⟩)]] W fun e w' => e = .returned (.bool (anyL 32 names)) ∧ W = w') := hide (fun g W hk hW => containsf_any g 32 names A an ac W hk ((H41.out.below hW).more hW.size) (by omega))
                    have kW := hide (Below.refl w1.heap.size w1)
                    clear y0 y1 y2 y3 y4 y5
                    go_region_held3 (fun V => V.cell? ⟨w.heap.size, 4, none⟩ = some (.slice D dn dc) ∧ V.cell? ⟨w.heap.size, 5, none⟩ = some (.slice A an ac))
                      (first | with_reducible exact allS.out _ (Below.drew kW.out) | with_reducible exact allS.out _ kW.out)
                      (first
                        | (go_at_call 69; with_reducible refine (XL.out _).mono ?_
                           rintro e wx ⟨rfl, kb, kx⟩
                           have kX := hide (below_more (Below.drew kW.out) (Nat.le_refl _) kx)
                           have HBX : Hid (Blk wx w1.heap.size 3 #[.int .i64 32]) := hide kb
                           clear kW
                           have kW := hide kX.out
                           clear kx kX kb)
                        | (go_at_call 67; with_reducible refine (XF.out w1.heap.size _ HBX.out kW.out).mono ?_
                           rintro e wx ⟨rfl, rfl⟩))
                    all_goals
                      go_wp2_with fail
                      go_ret
                      exact ⟨by first | rfl | simp [hd2, ha2, HU0.out], HB1.out.trans (kW.out.mono HBS)⟩
                  · have hd1 : decide ((dn : Int) ≤ 2048) = true := by simp [hd]
                    have ha1 : decide ((an : Int) ≤ 255) = false := by simp [ha]
                    have ha2 : ¬ an ≤ 255 := by omega
                    have ha3 : decide ((255 : Int) < (an : Int)) = true := by simp; omega
                    refine wp_region_M (fun V => V.cell? ⟨w.heap.size, 4, none⟩ = some (.slice D dn dc) ∧ V.cell? ⟨w.heap.size, 5, none⟩ = some (.slice A an ac)) 17 rfl ⟨y4, y5⟩ (fun hHeld => ?_)
                    refine wpAnyM_take (i := 0) (v := ?_) rfl rfl (by kernel_rfl) (fun _ _ _ h => h) (Or.inl ⟨by rfl, ?_⟩) (by assumption) ?_
                    rotate_left
                    · (intro V hV; (try dsimp only at hV); go_simp; with_reducible rfl)
                    try simp only [Act.put, List.setIfInBounds_toArray, List.set_cons_zero, List.set_cons_succ]
                    refine wpAnyM_take (i := 1) (v := ?_) rfl rfl (by kernel_rfl) (fun _ _ _ h => h) (Or.inl ⟨by rfl, ?_⟩) (by assumption) ?_
                    rotate_left
                    · (intro V hV; (try dsimp only at hV); go_simp; with_reducible rfl)
                    try simp only [Act.put, List.setIfInBounds_toArray, List.set_cons_zero, List.set_cons_succ]
                    refine wpAnyM_take (i := 2) (v := ?_) rfl rfl (by kernel_rfl) (fun _ _ _ h => h) (Or.inl ⟨by rfl, ?_⟩) (by assumption) ?_
                    rotate_left
                    · (intro V hV; (try dsimp only at hV); go_simp; with_reducible rfl)
                    try simp only [Act.put, List.setIfInBounds_toArray, List.set_cons_zero, List.set_cons_succ]
                    refine wpAnyM_take (i := 3) (v := ?_) rfl rfl (by kernel_rfl) (fun _ _ _ h => h) (Or.inl ⟨by rfl, ?_⟩) (by assumption) ?_
                    rotate_left
                    · (intro V hV; (try dsimp only at hV); go_simp; with_reducible rfl)
                    try simp only [Act.put, List.setIfInBounds_toArray, List.set_cons_zero, List.set_cons_succ]
                    refine wpAnyM_take (i := 4) (v := ?_) rfl rfl (by kernel_rfl) (fun _ _ _ h => h) (Or.inl ⟨by rfl, ?_⟩) (by assumption) ?_
                    rotate_left
                    · (intro V hV; (try dsimp only at hV); go_simp; with_reducible rfl)
                    try simp only [Act.put, List.setIfInBounds_toArray, List.set_cons_zero, List.set_cons_succ]
                    refine wpAnyM_take (i := 5) (v := ?_) rfl rfl (by kernel_rfl) (fun _ _ _ h => h) (Or.inl ⟨by rfl, ?_⟩) (by assumption) ?_
                    rotate_left
                    · (intro V hV; (try dsimp only at hV); go_simp; with_reducible rfl)
                    try simp only [Act.put, List.setIfInBounds_toArray, List.set_cons_zero, List.set_cons_succ]
                    refine wpAnyM_take (i := 6) (v := ?_) rfl rfl (by kernel_rfl) (fun _ _ _ h => h) (Or.inl ⟨by rfl, ?_⟩) (by assumption) ?_
                    rotate_left
                    · (intro V hV; (try dsimp only at hV); go_simp; with_reducible rfl)
                    try simp only [Act.put, List.setIfInBounds_toArray, List.set_cons_zero, List.set_cons_succ]
                    refine wpAnyM_take (i := 7) (v := ?_) rfl rfl (by kernel_rfl) (fun _ _ _ h => h) (Or.inl ⟨by rfl, ?_⟩) (by assumption) ?_
                    rotate_left
                    · (intro V hV; (try dsimp only at hV); go_simp; with_reducible rfl)
                    try simp only [Act.put, List.setIfInBounds_toArray, List.set_cons_zero, List.set_cons_succ]
                    refine wpAnyM_take (i := 8) (v := ?_) rfl rfl (by kernel_rfl) (fun _ _ _ h => h) (Or.inl ⟨by rfl, ?_⟩) (by assumption) ?_
                    rotate_left
                    · (intro V hV; (try dsimp only at hV); go_simp; with_reducible rfl)
                    try simp only [Act.put, List.setIfInBounds_toArray, List.set_cons_zero, List.set_cons_succ]
                    refine wpAnyM_take (i := 9) (v := ?_) rfl rfl (by kernel_rfl) (fun _ _ _ h => h) (Or.inl ⟨by rfl, ?_⟩) (by assumption) ?_
                    rotate_left
                    · (intro V hV; (try dsimp only at hV); go_simp; with_reducible rfl)
                    try simp only [Act.put, List.setIfInBounds_toArray, List.set_cons_zero, List.set_cons_succ]
                    refine wpAnyM_take (i := 10) (v := ?_) rfl rfl (by kernel_rfl) (fun _ _ _ h => h) (Or.inl ⟨by rfl, ?_⟩) (by assumption) ?_
                    rotate_left
                    · (intro V hV; (try dsimp only at hV); go_simp; with_reducible rfl)
                    try simp only [Act.put, List.setIfInBounds_toArray, List.set_cons_zero, List.set_cons_succ]
                    refine wpAnyM_take (i := 11) (v := undef) rfl rfl (by kernel_rfl) (fun _ _ _ h => h) (Or.inr ⟨by rfl, rfl⟩) (by assumption) ?_
                    try simp only [Act.put, List.setIfInBounds_toArray, List.set_cons_zero, List.set_cons_succ]
                    refine wpAnyM_take (i := 12) (v := undef) rfl rfl (by kernel_rfl) (fun _ _ _ h => h) (Or.inr ⟨by rfl, rfl⟩) (by assumption) ?_
                    try simp only [Act.put, List.setIfInBounds_toArray, List.set_cons_zero, List.set_cons_succ]
                    refine wpAnyM_take (i := 13) (v := undef) rfl rfl (by kernel_rfl) (fun _ _ _ h => h) (Or.inr ⟨by rfl, rfl⟩) (by assumption) ?_
                    try simp only [Act.put, List.setIfInBounds_toArray, List.set_cons_zero, List.set_cons_succ]
                    refine wpAnyM_take (i := 14) (v := undef) rfl rfl (by kernel_rfl) (fun _ _ _ h => h) (Or.inr ⟨by rfl, rfl⟩) (by assumption) ?_
                    try simp only [Act.put, List.setIfInBounds_toArray, List.set_cons_zero, List.set_cons_succ]
                    refine wpAnyM_take (i := 15) (v := undef) rfl rfl (by kernel_rfl) (fun _ _ _ h => h) (Or.inr ⟨by rfl, rfl⟩) (by assumption) ?_
                    try simp only [Act.put, List.setIfInBounds_toArray, List.set_cons_zero, List.set_cons_succ]
                    refine wpAnyM_take (i := 16) (v := ?_) rfl rfl (by kernel_rfl) (fun _ _ _ h => h) (Or.inl ⟨by rfl, ?_⟩) (by assumption) ?_
                    rotate_left
                    · (intro V hV; (try dsimp only at hV); go_simp; with_reducible rfl)
                    try simp only [Act.put, List.setIfInBounds_toArray, List.set_cons_zero, List.set_cons_succ]
                    refine wpAnyM_step (i := 17) (by kernel_rfl) rfl rfl (fun K hK => ?_)
                    go_simp
                    refine hK.out _ _ (fun h => absurd rfl h) ?_
                    refine wpAnyM_done (by kernel_rfl) ?_ _
                    clear hK K hHeld
                    go_wp2_with fail
                    go_ret
                    exact ⟨by first | rfl | simp [ha2], below_drewP HB1.out 1⟩
                · have hd1 : decide ((dn : Int) ≤ 2048) = false := by simp [hd]
                  have hd2 : ¬ dn ≤ 2048 := by omega
                  have hd3 : decide ((2048 : Int) < (dn : Int)) = true := by simp; omega
                  refine wp_region_M (fun V => V.cell? ⟨w.heap.size, 4, none⟩ = some (.slice D dn dc) ∧ V.cell? ⟨w.heap.size, 5, none⟩ = some (.slice A an ac)) 17 rfl ⟨y4, y5⟩ (fun hHeld => ?_)
                  refine wpAnyM_take (i := 0) (v := ?_) rfl rfl (by kernel_rfl) (fun _ _ _ h => h) (Or.inl ⟨by rfl, ?_⟩) (by assumption) ?_
                  rotate_left
                  · (intro V hV; (try dsimp only at hV); go_simp; with_reducible rfl)
                  try simp only [Act.put, List.setIfInBounds_toArray, List.set_cons_zero, List.set_cons_succ]
                  refine wpAnyM_take (i := 1) (v := ?_) rfl rfl (by kernel_rfl) (fun _ _ _ h => h) (Or.inl ⟨by rfl, ?_⟩) (by assumption) ?_
                  rotate_left
                  · (intro V hV; (try dsimp only at hV); go_simp; with_reducible rfl)
                  try simp only [Act.put, List.setIfInBounds_toArray, List.set_cons_zero, List.set_cons_succ]
                  refine wpAnyM_take (i := 2) (v := ?_) rfl rfl (by kernel_rfl) (fun _ _ _ h => h) (Or.inl ⟨by rfl, ?_⟩) (by assumption) ?_
                  rotate_left
                  · (intro V hV; (try dsimp only at hV); go_simp; with_reducible rfl)
                  try simp only [Act.put, List.setIfInBounds_toArray, List.set_cons_zero, List.set_cons_succ]
                  refine wpAnyM_take (i := 3) (v := ?_) rfl rfl (by kernel_rfl) (fun _ _ _ h => h) (Or.inl ⟨by rfl, ?_⟩) (by assumption) ?_
                  rotate_left
                  · (intro V hV; (try dsimp only at hV); go_simp; with_reducible rfl)
                  try simp only [Act.put, List.setIfInBounds_toArray, List.set_cons_zero, List.set_cons_succ]
                  refine wpAnyM_take (i := 4) (v := ?_) rfl rfl (by kernel_rfl) (fun _ _ _ h => h) (Or.inl ⟨by rfl, ?_⟩) (by assumption) ?_
                  rotate_left
                  · (intro V hV; (try dsimp only at hV); go_simp; with_reducible rfl)
                  try simp only [Act.put, List.setIfInBounds_toArray, List.set_cons_zero, List.set_cons_succ]
                  refine wpAnyM_take (i := 5) (v := undef) rfl rfl (by kernel_rfl) (fun _ _ _ h => h) (Or.inr ⟨by rfl, rfl⟩) (by assumption) ?_
                  try simp only [Act.put, List.setIfInBounds_toArray, List.set_cons_zero, List.set_cons_succ]
                  refine wpAnyM_take (i := 6) (v := undef) rfl rfl (by kernel_rfl) (fun _ _ _ h => h) (Or.inr ⟨by rfl, rfl⟩) (by assumption) ?_
                  try simp only [Act.put, List.setIfInBounds_toArray, List.set_cons_zero, List.set_cons_succ]
                  refine wpAnyM_take (i := 7) (v := undef) rfl rfl (by kernel_rfl) (fun _ _ _ h => h) (Or.inr ⟨by rfl, rfl⟩) (by assumption) ?_
                  try simp only [Act.put, List.setIfInBounds_toArray, List.set_cons_zero, List.set_cons_succ]
                  refine wpAnyM_take (i := 8) (v := undef) rfl rfl (by kernel_rfl) (fun _ _ _ h => h) (Or.inr ⟨by rfl, rfl⟩) (by assumption) ?_
                  try simp only [Act.put, List.setIfInBounds_toArray, List.set_cons_zero, List.set_cons_succ]
                  refine wpAnyM_take (i := 9) (v := ?_) rfl rfl (by kernel_rfl) (fun _ _ _ h => h) (Or.inl ⟨by rfl, ?_⟩) (by assumption) ?_
                  rotate_left
                  · (intro V hV; (try dsimp only at hV); go_simp; with_reducible rfl)
                  try simp only [Act.put, List.setIfInBounds_toArray, List.set_cons_zero, List.set_cons_succ]
                  refine wpAnyM_take (i := 10) (v := ?_) rfl rfl (by kernel_rfl) (fun _ _ _ h => h) (Or.inl ⟨by rfl, ?_⟩) (by assumption) ?_
                  rotate_left
                  · (intro V hV; (try dsimp only at hV); go_simp; with_reducible rfl)
                  try simp only [Act.put, List.setIfInBounds_toArray, List.set_cons_zero, List.set_cons_succ]
                  refine wpAnyM_take (i := 11) (v := undef) rfl rfl (by kernel_rfl) (fun _ _ _ h => h) (Or.inr ⟨by rfl, rfl⟩) (by assumption) ?_
                  try simp only [Act.put, List.setIfInBounds_toArray, List.set_cons_zero, List.set_cons_succ]
                  refine wpAnyM_take (i := 12) (v := undef) rfl rfl (by kernel_rfl) (fun _ _ _ h => h) (Or.inr ⟨by rfl, rfl⟩) (by assumption) ?_
                  try simp only [Act.put, List.setIfInBounds_toArray, List.set_cons_zero, List.set_cons_succ]
                  refine wpAnyM_take (i := 13) (v := undef) rfl rfl (by kernel_rfl) (fun _ _ _ h => h) (Or.inr ⟨by rfl, rfl⟩) (by assumption) ?_
                  try simp only [Act.put, List.setIfInBounds_toArray, List.set_cons_zero, List.set_cons_succ]
                  refine wpAnyM_take (i := 14) (v := undef) rfl rfl (by kernel_rfl) (fun _ _ _ h => h) (Or.inr ⟨by rfl, rfl⟩) (by assumption) ?_
                  try simp only [Act.put, List.setIfInBounds_toArray, List.set_cons_zero, List.set_cons_succ]
                  refine wpAnyM_take (i := 15) (v := undef) rfl rfl (by kernel_rfl) (fun _ _ _ h => h) (Or.inr ⟨by rfl, rfl⟩) (by assumption) ?_
                  try simp only [Act.put, List.setIfInBounds_toArray, List.set_cons_zero, List.set_cons_succ]
                  refine wpAnyM_take (i := 16) (v := ?_) rfl rfl (by kernel_rfl) (fun _ _ _ h => h) (Or.inl ⟨by rfl, ?_⟩) (by assumption) ?_
                  rotate_left
                  · (intro V hV; (try dsimp only at hV); go_simp; with_reducible rfl)
                  try simp only [Act.put, List.setIfInBounds_toArray, List.set_cons_zero, List.set_cons_succ]
                  refine wpAnyM_step (i := 17) (by kernel_rfl) rfl rfl (fun K hK => ?_)
                  go_simp
                  refine hK.out _ _ (fun h => absurd rfl h) ?_
                  refine wpAnyM_done (by kernel_rfl) ?_ _
                  clear hK K hHeld
                  go_wp2_with fail
                  go_ret
                  exact ⟨by first | rfl | simp [hd2], below_drewP HB1.out 1⟩
        · go_enter Try.func74, Try.ntmps74
          go_wp2_with fail
          refine (XU.out _).mono ?_
          rintro e w1 ⟨rfl, hb1⟩
          have HB1 := hide (below_more HB.out (Nat.le_refl _) hb1)
          have HK1 := hide (HK.out.below hb1 HK.out.lt)
          have hl1 := HK1.out.lt
          clear hb1 x0 x1 x2 x3 x4 x5 HB HK
          obtain ⟨y0, y1, y2, y3, y4, y5⟩ := blk6 HK1.out
          go_wp2_with fail
          go_ret
          exact ⟨by first | rfl | simp [hu], HB1.out⟩
end Go.Proofs.Ytedacfjkbfgikaa
