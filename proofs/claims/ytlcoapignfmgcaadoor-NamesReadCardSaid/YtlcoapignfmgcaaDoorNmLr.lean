/- The law NamesRead. -/
import Derived.Test.YtlcoapignfmgcaaDoorNmLra
import Derived.Test.YtlcoapignfmgcaaDoorNmLk
namespace Go.Proofs.YtlcoapignfmgcaaDoor
open Go.RowKit
set_option linter.unusedVariables false
theorem u8_at (g1 o m k q : Nat) (i : Int) (hi : i = (q : Int)) (hq : q < m) (W : World) : (Instr.indexAt 28 (.slice (some ⟨g1, o, none⟩) m k) (.int .i64 i)).run Tryd.prog W = .ok (.pointer (some ⟨g1, o + q, none⟩)) W := by
  subst hi
  have hE : Tryd.prog.elem 28 = 5 := by simp [Program.elem, Tryd.underlying28]
  rw [run_indexAt_slice W 28 ⟨g1, o, none⟩ m k .i64 (q : Int) (slice_ht Tryd.underlying28), if_pos ⟨by omega, by omega⟩]
  rw [hE, run_sizeOf_n sizeU8 W]
  simp only [Result.andThen, Int.toNat_natCast, at_add, Nat.mul_one]
theorem conv_str {W : World} {A : Option Addr} {n c : Nat} {bs : List UInt8} (h : Rd W A n bs) : (convert 28 9 (.slice A n c)).run Tryd.prog W = .ok (.string ⟨bs.toArray⟩) W :=
  run_string_of (P := Tryd.prog) W W.heap.size 28 9 5 A n c bs Tryd.underlying28 Tryd.underlying5 Tryd.underlying9 h
theorem dcs_one : ∀ (X : List DV), ∀ u ∈ dcs X, u.oneCell' = true
  | [], u, hu => by cases hu
  | x :: X, u, hu => by
    rw [dcs] at hu
    rcases List.mem_append.1 hu with hu | hu
    · unfold DV.cs at hu
      simp only [List.mem_cons, List.not_mem_nil, or_false] at hu
      rcases hu with rfl | rfl | rfl | rfl | rfl | rfl <;> rfl
    · exact dcs_one X u hu
theorem fs_put {B g n c : Nat} {w : World} {X : List DV} (h : OF B w (some ⟨g, 0, none⟩) n c X) {k j : Nat} {x' : DV} {v : Value} (hk : k < n) (hj : j < 6) (e : ∀ x, X[k]? = some x → x'.cs = x.cs.set j v)
    (hok : DVok w w.heap.size x') (ho : Off x'.D x'.dn g ∧ Off x'.M x'.mn g) : FsR (w.setCell ⟨g, k * 6 + j, none⟩ v) (w.setCell ⟨g, k * 6 + j, none⟩ v).heap.size (some ⟨g, 0, none⟩) n (X.set k x') := by
  have hl := h.len
  have hkl : k < X.length := by omega
  have hs : (w.setCell ⟨g, k * 6 + j, none⟩ v).heap.size = w.heap.size := by simp
  have key : ∀ x, DVok w w.heap.size x → Off x.D x.dn g ∧ Off x.M x.mn g → DVok (w.setCell ⟨g, k * 6 + j, none⟩ v) (w.setCell ⟨g, k * 6 + j, none⟩ v).heap.size x := fun x hx hof => by
    rw [hs]
    exact ⟨Reads.far hx.d (p := ⟨g, k * 6 + j, none⟩) hof.1 v, Reads.far hx.n (p := ⟨g, k * 6 + j, none⟩) hof.2 v⟩
  refine ⟨?_, fun x hx => ?_⟩
  · rw [dcs_set X k j x' v hkl hj (e _ (List.getElem?_eq_getElem hkl))]
    exact Reads.of_own (World.ownsRow.stored h.own (k * 6 + j) v).1
  · rcases List.mem_or_eq_of_mem_set hx with hx | rfl
    · exact key x (h.ok x hx) (h.off _ rfl x hx)
    · exact key _ hok ho
set_option maxRecDepth 100000 in
set_option maxHeartbeats 16000000 in
theorem read_b (L : Option Addr) (n c : Nat) (X : List DV) (nd off : Int) (A : Option Addr) (bn bc : Nat) (b : List UInt8) (w : World) (hS : Std w) (hF : FsR w w.heap.size L n X) (hn : n ≤ maxLen) (hA : Rd w A bn b) (hbc : bn ≤ bc) :
    Calls Tryd.prog 4 #[.agg #[.slice L n c], .int .i64 nd, .int .i64 off, .slice A bn bc] w fun e w' => e = .returned (.bool true) ∧ Below w.heap.size w w' := by
  have HST := hide hS
  have hbl := hA.len
  have HBL := hide hbl
  have HA := hide (fun (W : World) (hW : Below w.heap.size w W) => (Reads.below hA hW).more hW.size)
  obtain ⟨W1, hW1⟩ : ∃ W, w.alloc (.cells #[.slice L n c] 24) = W := ⟨_, rfl⟩
  have h1 : Blk W1 w.heap.size 24 #[.slice L n c] := by rw [← hW1]; exact Blk.new w _ _
  have b1 : Below w.heap.size w W1 := by rw [← hW1]; exact on_alloc _ _
  have HX := hide h1
  have HB := hide b1
  have HF := hide (fun (W : World) (hW : Below w.heap.size w W) => (hF.below hW).more hW.size)
  have HOFA := hide (fun (g : Nat) (hg : w.heap.size ≤ g) => off_below hF hg)
  have XF := hide (few6_any L n c X W1 (HF.out W1 b1) hn)
  have k0 := one_ h1
  clear hF h1 b1 hS hA hbl
  go_enter Tryd.func4, Tryd.ntmps4
  go_wp2_with (rw [hW1])
  refine XF.out.mono ?_
  rintro e w2 ⟨fw, rfl, hfw, hb2⟩
  have HX2 := hide (HX.out.below hb2 HX.out.lt)
  have HB2 := hide (HB.out.trans (hb2.mono HB.out.size))
  have HFW := hide hfw
  clear hb2 k0 HX HB XF hW1 hfw
  have k0 := one_ HX2.out
  cases fw with
  | false =>
    have XH := hide (heads_n w2 (HST.out.below HB2.out))
    go_wp2_with fail
    refine XH.out.mono ?_
    rintro e wz ⟨rfl, hbz⟩
    have HE := hide (HB2.out.trans (hbz.mono HB2.out.size))
    clear hbz XH
    go_wp2_with fail
    go_ret
    exact ⟨rfl, HE.out⟩
  | true =>
    have hF6 := HFW.out rfl
    have HF6 := hide hF6
    have hfb : FewB X := ⟨by have := hF6.n; omega, fun x hx => ⟨(hF6.each x hx).d, (hF6.each x hx).tt, by have := (hF6.each x hx).n; omega, (hF6.each x hx).nm⟩, by have := hF6.all; omega⟩
    have HFEW := hide hfb
    have XC := hide (rcheck_any L n c X w2 (HF.out w2 HB2.out) hfb)
    obtain ⟨ck, hck⟩ : ∃ b, checkB (nds X) = b := ⟨_, rfl⟩
    rw [hck] at XC
    have HCK := hide hck
    clear hF6 hck HFW hfb
    go_wp2_with fail
    refine XC.out.mono ?_
    rintro e w3 ⟨rfl, hb3⟩
    have HX3 := hide (HX2.out.below hb3 HX2.out.lt)
    have HB3 := hide (HB2.out.trans (hb3.mono HB2.out.size))
    clear hb3 k0 HX2 HB2 XC
    have k0 := one_ HX3.out
    cases ck with
    | false =>
      have XH := hide (heads_n w3 (HST.out.below HB3.out))
      go_wp2_with fail
      refine XH.out.mono ?_
      rintro e wz ⟨rfl, hbz⟩
      have HE := hide (HB3.out.trans (hbz.mono HB3.out.size))
      clear hbz XH
      go_wp2_with fail
      go_ret
      exact ⟨rfl, HE.out⟩
    | true =>
      by_cases hb5 : bn ≤ 5000
      · have hm2 : ¬ ((5000 : Int) < (bn : Int)) := by omega
        have XW := hide (write_c L n c X nd off A bn bc b w3 (HF.out w3 HB3.out) HFEW.out (HA.out w3 HB3.out) (by omega))
        obtain ⟨T, hT⟩ : ∃ T, writeP (nds X) nd off b = T := ⟨_, rfl⟩
        rw [hT] at XW
        have HT := hide hT
        clear hT
        obtain ⟨l', nn, e0⟩ := T
        have HINV : Hid (Kept (nds X) l') := hide (by have := (write_kept HCK.out nd off b).1; rw [HT.out] at this; exact this)
        go_wp2_with fail
        refine XW.out.mono ?_
        rintro e w4 ⟨L', n', c', X', rfl, hO, hR, hb⟩
        obtain ⟨W4, hW4⟩ : ∃ W, w4.alloc (.cells #[.slice L' n' c'] 24) = W := ⟨_, rfl⟩
        have b4 : Below w4.heap.size w4 W4 := by rw [← hW4]; exact on_alloc _ _
        have HG4 : Hid (Blk W4 w4.heap.size 24 #[.slice L' n' c']) := hide (by rw [← hW4]; exact Blk.new w4 _ _)
        have HB34 := hide (hb.trans (b4.mono hb.size))
        have HX4 := hide (HX3.out.below HB34.out HX3.out.lt)
        have HB4 := hide (HB3.out.trans (HB34.out.mono HB3.out.size))
        have HO4 := hide (hO.below b4)
        have HOG := hide (off_below hO.fs (Nat.le_refl w4.heap.size))
        have HR4 := hide hR
        have hgl := HG4.out.lt
        have hfw : w.heap.size < w4.heap.size := Nat.lt_of_lt_of_le HX3.out.lt hb.size
        clear hO hR hb b4 XW k0 HX3
        obtain ⟨gb, hgb⟩ : ∃ g, w4.heap.size = g := ⟨_, rfl⟩
        rw [hgb] at HG4 hgl HOG
        have hfg : w.heap.size < gb := by rw [← hgb]; exact hfw
        have k0 := one_ HX4.out
        have k1 := one_ HG4.out
        by_cases h0 : e0 = 0
        · subst h0
          obtain ⟨m, q, r, hok⟩ := write_ok HCK.out HT.out
          have HOK := hide hok
          obtain rfl := hok.km
          obtain rfl := hok.offq
          obtain rfl := hok.nr
          have hmn : m < n := by have := hok.mlt; rw [nds_length] at this; have h2 := (HF.out W4 HB4.out).len; omega
          have hln : n' = n := by
            have h2 := HO4.out.len
            have h3 := hok.len
            rw [← HR4.out, nds_length, nds_length] at h3
            have h4 := (HF.out W4 HB4.out).len
            omega
          have hmX : m < n' := by omega
          have hm1 : ¬ ((m : Int) < 0) := by omega
          have hm2' : ¬ ((n : Int) ≤ (m : Int)) := by omega
          have hm3 : ¬ ((n' : Int) ≤ (m : Int)) := by omega
          have hr0 : ¬ ((r : Int) < 0) := by omega
          have HLN := hide hln
          have HFG := hide (Inv6.few (X := X') (i := 1) (by rw [HR4.out]; exact (inv_start HF6.out HCK.out).next HINV.out) (by omega))
          have XR := hide (read_c L' n' c' X' (m : Int) (q : Int) (r : Int) W4 HO4.out.fs HFG.out (fun x hx => (HO4.out.lo x hx).2.2.1))
          rw [HR4.out, hok.rd] at XR
          have hbq := hok.bq
          have hbr := hok.br
          have hrl := hok.rl
          clear hok hln
          go_wp2_with (first | rw [hW4] | rw [hgb])
          refine XR.out.mono ?_
          rintro e w5 ⟨Ac, nc, cc, rfl, hown, hb5⟩
          have HB5 := hide (HB4.out.trans (hb5.mono HB4.out.size))
          have HB45 := hide hb5
          have HX5 := hide (HX4.out.below hb5 HX4.out.lt)
          have HG5 := hide (HG4.out.below hb5 HG4.out.lt)
          have HCR : Hid (Rd w5 Ac nc (b.take r)) := hide (Reads.of_own hown)
          have HAr := hide (HA.out w5 HB5.out)
          clear hown hb5 XR k0 k1
          have k0 := one_ HX5.out
          have k1 := one_ HG5.out
          have hcv1 : ∀ k, (convert 28 9 (.slice Ac nc cc)).run Tryd.prog (w5.drewN k) = .ok (.string ⟨(b.take r).toArray⟩) (w5.drewN k) := fun k => conv_str ((Reads.below HCR.out (bl_drewN (n := k) (Below.refl w5.heap.size w5))).more (bl_drewN (n := k) (Below.refl w5.heap.size w5)).size)
          have hrn : r ≤ bn := by rw [← HBL.out]; exact hrl
          have hcv2 : ∀ k, (convert 28 9 (.slice A r bc)).run Tryd.prog (w5.drewN k) = .ok (.string ⟨(b.take r).toArray⟩) (w5.drewN k) := fun k => conv_str (by
            have h1 := (Reads.below HAr.out (bl_drewN (n := k) (Below.refl w5.heap.size w5))).more (bl_drewN (n := k) (Below.refl w5.heap.size w5)).size
            have h2 := h1.take (q := r) hrn
            rw [← bv_take] at h2
            exact h2)
          have hsl := fun W => sl_toU A bn bc r (by omega) W
          have hgt : ¬ ((bn : Int) < (r : Int)) := by omega
          go_wp2_with fail
          go_quiet (fail)
          obtain ⟨w6, hw6⟩ : ∃ W, w5.drewN nq = W := ⟨_, rfl⟩
          have hb6 : Below w5.heap.size w5 w6 := by rw [← hw6]; exact bl_drewN (n := nq) (Below.refl w5.heap.size w5)
          rw [hw6]
          have HB6 := hide (HB5.out.trans (hb6.mono HB5.out.size))
          have HX6 := hide (HX5.out.below hb6 HX5.out.lt)
          have HG6 := hide (HG5.out.below hb6 HG5.out.lt)
          have HS56 := hide hb6.size
          have HFX := hide ((HO4.out.fs.below (HB45.out.trans (hb6.mono HB45.out.size))).more (HB45.out.trans (hb6.mono HB45.out.size)).size)
          have HFF := hide (HF.out w6 HB6.out)
          clear hcv1 hcv2 hsl hgt hb6 hw6 k0 k1 HX5 HG5 HAr HCR hm1 hm2' hm3 hr0
          have k0 := one_ HX6.out
          have k1 := one_ HG6.out
          obtain ⟨g0, o0, y, hL, hg0, hy, hyok, hyc⟩ := HFF.out.at_ hmn
          obtain ⟨g1, o1, z, hL1, hg1, hz, hzok, hzc⟩ := HFX.out.at_ hmX
          have hyr := nds_at hy
          have hzr := nds_at hz
          rw [HR4.out] at hzr
          obtain ⟨ry, Dy, dny, dcy, My, mny, mcy⟩ := y
          obtain ⟨rz, Dz, dnz, dcz, Mz, mnz, mcz⟩ := z
          dsimp only at hyr hzr
          have hdy := hyok.dl
          have hdz := hzok.dl
          dsimp only at hdy hdz
          have hdz5 : dnz ≤ 5000 := by have h1 := (HFG.out.each _ (List.mem_of_getElem? hz)).d; dsimp only at h1; omega
          have hdy5 : dny ≤ 5000 := by have h1 := (HFEW.out.each _ (List.mem_of_getElem? hy)).d; dsimp only at h1; omega
          have HOYY := hide (show Off Dy dny gb from ((HOFA.out gb (Nat.le_of_lt hfg)).2 _ (List.mem_of_getElem? hy)).1)
          have HY := hide hy
          have HZ := hide hz
          have HYD := hide hyok.d
          have HZD := hide hzok.d
          have HYR := hide hyr
          have HZR := hide hzr
          have HDY := hide hdy
          have HDZ := hide hdz
          subst hL hL1
          obtain ⟨d0, d1, d2, d3, d4, d5⟩ := hyc
          obtain ⟨f0, f1, f2, f3, f4, f5⟩ := hzc
          dsimp only at d3 f3
          have i1 := fun W => nd_at g0 o0 n c m (m : Int) rfl hmn W
          have i2 := fun W => nd_at g1 o1 n' c' m (m : Int) rfl hmX W
          clear hy hz hyok hzok hyr hzr hdy hdz d0 d1 d2 d4 d5 f0 f1 f2 f4 f5
          go_wp2_with fail
          go_quiet (fail)
          obtain ⟨w7, hw7⟩ : ∃ W, w6.drewN nq = W := ⟨_, rfl⟩
          have hb7 : Below w6.heap.size w6 w7 := by rw [← hw7]; exact bl_drewN (n := nq) (Below.refl w6.heap.size w6)
          rw [hw7]
          have HB7 := hide (HB6.out.trans (hb7.mono HB6.out.size))
          have HX7 := hide (HX6.out.below hb7 HX6.out.lt)
          have HG7 := hide (HG6.out.below hb7 HG6.out.lt)
          have HF7 := hide (HF.out w7 HB7.out)
          have HZ7 := hide ((HFX.out.below hb7).more hb7.size)
          have HW57 := hide (show w5.heap.size ≤ w7.heap.size by have h1 := hb7.size; have h2 := HS56.out; omega)
          have HOY := hide (show Off Dy dny gb from HOYY.out)
          have HYD7 := hide ((Reads.below HYD.out hb7).more hb7.size)
          have HZD7 := hide ((Reads.below HZD.out hb7).more hb7.size)
          clear hb7 hw7 d3 f3 i1 i2 k0 k1 HX6 HG6 HFX HFF HYD HZD
          go_wp2_with fail
          go_loopw [16] (fun u16 wx => ∃ i : Nat, i ≤ dnz ∧ u16 = .int .i64 (i : Int) ∧ Hid (Below w7.heap.size w7 wx)) (fun i _ => dnz - (intOf i).toNat)
          case atStart => exact ⟨0, Nat.zero_le _, rfl, hide (Below.refl _ _)⟩
          case round =>
            obtain ⟨i, hi, rfl, HW⟩ := hrel
            by_cases hiz : i < dnz
            · have hlt : (i : Int) < (dnz : Int) := by omega
              have hwr : IntKind.i64.wrap ((q : Int) + (r : Int)) = (q : Int) + (r : Int) := by simp [IntKind.wrap, IntKind.bits, IntKind.signed]; omega
              by_cases hin : q ≤ i ∧ i < q + r
              · have h1 : (q : Int) ≤ (i : Int) := by omega
                have h2 : (i : Int) < (q : Int) + (r : Int) := by omega
                clear hin
                go_wp2_with fail
                go_roundw
                case rel => exact ⟨i + 1, by omega, by go_num, HW⟩
                case measure => simp [intOf]; omega
              · have hzl : rz.data.length = dnz := HDZ.out
                obtain ⟨gz, oz, hDz, hgz, hcz⟩ := cells_of (Reads.below HZD7.out HW.out) (by omega) (by rw [bv_length, hzl]; omega)
                subst hDz
                obtain ⟨v, hv⟩ : ∃ v, rz.data[i]? = some v := ⟨_, List.getElem?_eq_getElem (by omega)⟩
                have hcv : wr.cell? ⟨gz, oz + i, none⟩ = some (.int .u8 ((v.toNat : Nat) : Int)) := hcz i _ (by simp [bv, hv])
                have hz1 := fun W => u8_at gz oz dnz dcz i (i : Int) rfl hiz W
                have hkeep := HOK.out.keep i v (by rw [HZR.out]; exact hv) hin
                rw [HYR.out] at hkeep
                have HKEEP := hide hkeep
                clear hkeep hcz hgz hv hzl
                by_cases hiy : i < dny
                · have hyl : ry.data.length = dny := HDY.out
                  obtain ⟨gy, oy, hDy, hgy, hcy⟩ := cells_of (Reads.below HYD7.out HW.out) (by omega) (by rw [bv_length, hyl]; omega)
                  subst hDy
                  have hcu : wr.cell? ⟨gy, oy + i, none⟩ = some (.int .u8 ((v.toNat : Nat) : Int)) := hcy i _ (by simp [bv, HKEEP.out.1 (by omega)])
                  have hy1 := fun W => u8_at gy oy dny dcy i (i : Int) rfl hiy W
                  have g1' : (i : Int) < (dny : Int) := by omega
                  have g2' : ¬ ((dny : Int) ≤ (i : Int)) := by omega
                  have g3' : decide ((i : Int) < (dny : Int)) = true := decide_eq_true g1'
                  have g4' : decide ((dny : Int) ≤ (i : Int)) = false := decide_eq_false g2'
                  have g5' : decide (dny ≤ i) = false := decide_eq_false (by omega)
                  have g6' : decide (i < dny) = true := decide_eq_true hiy
                  clear hcy hgy hyl
                  by_cases hqi : q ≤ i
                  · have h1 : (q : Int) ≤ (i : Int) := by omega
                    have h2 : ¬ ((i : Int) < (q : Int) + (r : Int)) := by omega
                    clear hin
                    go_wp2_with fail
                    go_quiet (fail)
                    go_wp2_with fail
                    go_roundw
                    case rel => exact ⟨i + 1, by omega, by go_num, hide (bl_drewN HW.out)⟩
                    case measure => simp [intOf]; omega
                  · have h1 : ¬ ((q : Int) ≤ (i : Int)) := by omega
                    clear hin
                    go_wp2_with fail
                    go_quiet (fail)
                    go_wp2_with fail
                    go_roundw
                    case rel => exact ⟨i + 1, by omega, by go_num, hide (bl_drewN HW.out)⟩
                    case measure => simp [intOf]; omega
                · have hv0 : v = 0 := HKEEP.out.2 (by have := HDY.out; omega)
                  subst hv0
                  have hcv0 : wr.cell? ⟨gz, oz + i, none⟩ = some (.int .u8 0) := hcv
                  have g1' : ¬ ((i : Int) < (dny : Int)) := by omega
                  have g2' : (dny : Int) ≤ (i : Int) := by omega
                  have g3' : decide ((i : Int) < (dny : Int)) = false := decide_eq_false g1'
                  have g4' : decide ((dny : Int) ≤ (i : Int)) = true := decide_eq_true g2'
                  have g5' : decide (dny ≤ i) = true := decide_eq_true (by omega)
                  have g6' : decide (i < dny) = false := decide_eq_false hiy
                  clear hcv
                  by_cases hqi : q ≤ i
                  · have h1 : (q : Int) ≤ (i : Int) := by omega
                    have h2 : ¬ ((i : Int) < (q : Int) + (r : Int)) := by omega
                    clear hin
                    go_wp2_with fail
                    go_quiet (fail)
                    go_wp2_with fail
                    go_roundw
                    case rel => exact ⟨i + 1, by omega, by go_num, hide (bl_drewN HW.out)⟩
                    case measure => simp [intOf]; omega
                  · have h1 : ¬ ((q : Int) ≤ (i : Int)) := by omega
                    clear hin
                    go_wp2_with fail
                    go_quiet (fail)
                    go_wp2_with fail
                    go_roundw
                    case rel => exact ⟨i + 1, by omega, by go_num, hide (bl_drewN HW.out)⟩
                    case measure => simp [intOf]; omega
            · have hlt : ¬ ((i : Int) < (dnz : Int)) := by omega
              have HX8 := hide (HX7.out.below HW.out HX7.out.lt)
              have HG8 := hide (HG7.out.below HW.out HG7.out.lt)
              have HF8 := hide (HF.out wr (HB7.out.trans (HW.out.mono HB7.out.size)))
              have HZ8 := hide ((HZ7.out.below HW.out).more HW.out.size)
              have HB8 := hide (HB7.out.trans (HW.out.mono HB7.out.size))
              have k0 := one_ HX8.out
              have k1 := one_ HG8.out
              have k1z := HG8.out.frozen 0
              have k1l := HG8.out.lt
              have HN7 := hide (And.intro (HB7.out.size) HW.out.size)
              have HN7W := hide (show w3.heap.size ≤ wr.heap.size by have h1 := HB34.out.size; have h2 := HB45.out.size; have h3 := HW57.out; have h4 := HW.out.size; omega)
              obtain ⟨WA, hWA⟩ : ∃ W, wr.alloc (.cells #[] 37) = W := ⟨_, rfl⟩
              have hbA : Below wr.heap.size wr WA := by rw [← hWA]; exact on_alloc _ _
              have hE0 : Blk WA wr.heap.size 37 #[] := by rw [← hWA]; exact Blk.new wr _ _
              have hownA : WA.ownsRow wr.heap.size 37 6 (.slice (some ⟨wr.heap.size, 0, none⟩) 0 0) 0 [] := ⟨rfl, .inr ⟨wr.heap.size, 0, #[], rfl, Nat.le_refl _, hE0, Nat.le_refl _, by unfold maxLen; omega, rfl, rfl⟩⟩
              have hrdX : Reads WA WA.heap.size 6 (some ⟨g1, o1, none⟩) n' (dcs X') := ((HZ8.out.below hbA).more hbA.size).rd
              have HOWN := hide hownA
              have HRDX := hide hrdX
              have HBA := hide hbA
              have kA1 := one_ (HG8.out.below hbA HG8.out.lt)
              have hn5 : n' ≤ 100 := by have h1 := HFG.out.n; have h2 := HZ8.out.len; omega
              have HAS := hide hbA.size
              obtain ⟨i0, hi0, hzz0, hzz1, hzz2⟩ := info_parts infoNodeC
              clear hbA hE0 hownA hrdX
              go_wp2_with (first | rw [hWA] | (at_builtin; (refine wpList_append_any _ rfl (.tmp 153) (.tmp 155) 22 rfl wr.heap.size 37 i0 _ 6 88 Tryd.underlying22 hi0 hzz0 hzz1 hzz2 rfl (by omega) (.slice (some ⟨wr.heap.size, 0, none⟩) 0 0) 0 [] rfl HOWN.out WA.heap.size (some ⟨g1, o1, none⟩) n' c' (dcs X') rfl HRDX.out ?h1 ?c1 ?c2 ?c3 ?_)))
              case h1 => exact dcs_one X'
              case c1 => unfold maxLen; omega
              case c2 => omega
              case c3 => exact HAS.out
              intro v1 w9 hown hg hat
              obtain ⟨A1, cc1, rfl⟩ := own_slice hown
              obtain ⟨g9, hA1, hg9, hg9l⟩ : ∃ g9, A1 = some ⟨g9, 0, none⟩ ∧ wr.heap.size ≤ g9 ∧ g9 < w9.heap.size := by
                obtain ⟨g', cap, cur, e, hb, hh, _⟩ := hown.2.resolve_left (fun ⟨e, h0⟩ => by omega)
                injection e with e1 e2 e3
                refine ⟨g', e1, hb, ?_⟩
                rcases Nat.lt_or_ge g' w9.heap.size with h | h
                · exact h
                · rw [Array.getElem?_eq_none h] at hh; cases hh
              subst hA1
              have hb9 : Below wr.heap.size wr w9 := HBA.out.grown hg HAS.out (fun z hz => Nat.le_of_eq (by simpa [Value.ownBlock] using hz))
              have hN := HN7.out
              have hgbr : gb < wr.heap.size := HG8.out.lt
              have h34 := HB34.out.size
              have h45 := HB45.out.size
              have hz9 := (HZ8.out.below hb9).more hb9.size
              have hof9 : ∀ x ∈ X', Off x.D x.dn g9 ∧ Off x.M x.mn g9 := fun x hx => (off_below HZ8.out hg9).2 x hx
              have hO9 : OF w3.heap.size w9 (some ⟨g9, 0, none⟩) n' cc1 X' := ⟨own_more hown (by have := HN7W.out; omega), hz9.ok, fun a ha x hx => by injection ha with ha; subst ha; exact hof9 x hx, HO4.out.lo⟩
              have hG9 := HG8.out.below hb9 HG8.out.lt
              have hO10 := hO9.aside (p := ⟨gb, 0, none⟩) hG9 (by decide) (fun x hx => HOG.out.2 x hx) (.slice (some ⟨g9, 0, none⟩) n' cc1)
              obtain ⟨w10, hw10⟩ : ∃ W, w9.setCell ⟨gb, 0, none⟩ (.slice (some ⟨g9, 0, none⟩) n' cc1) = W := ⟨_, rfl⟩
              have hs10 : w10.heap.size = w9.heap.size := by rw [← hw10]; simp
              have hG10 : Blk w10 gb 24 #[.slice (some ⟨g9, 0, none⟩) n' cc1] := by rw [← hw10]; exact hG9.set_ 0 _
              have hb10 : Below gb w9 w10 := by rw [← hw10]; exact (Below.refl _ _).setCell (p := ⟨gb, 0, none⟩) (Nat.le_refl _) _
              rw [hw10] at hO10
              have hzX := HZ.out
              obtain ⟨⟨-, -, -, e3, -, -⟩, hfz⟩ := hO10.cells hzX
              dsimp only at e3
              have hfx := hfz (m * 6 + 3)
              have j1 := fun W => nd_at0 g9 n' cc1 m (m : Int) rfl hmX W
              have hYD10 : Reads w10 w10.heap.size 1 Dy dny (bv ry.data) := by
                have h1 := (Reads.below HYD7.out (HW.out.trans (hb9.mono HW.out.size)))
                have h2 := Reads.far h1 (p := ⟨gb, 0, none⟩) (HOY.out) (.slice (some ⟨g9, 0, none⟩) n' cc1)
                rw [hw10] at h2
                exact h2.more (by rw [hs10]; have := hb9.size; have := HW.out.size; omega)
              have hoD : Off Dy dny g9 := off_of HYD7.out (by omega)
              have hzok10 := hO10.ok _ (List.mem_of_getElem? hzX)
              have hzof10 := hO10.off _ rfl _ (List.mem_of_getElem? hzX)
              have hF11 := fs_put hO10 (k := m) (j := 3) (x' := ⟨{ rz with data := ry.data }, Dy, dny, dcy, Mz, mnz, mcz⟩) (v := .slice Dy dny dcy) hmX (by omega) (fun y hy => by rw [hzX] at hy; injection hy with hy; subst hy; rfl)
                ⟨hYD10, hzok10.n⟩ ⟨hoD, hzof10.2⟩
              have hls : nds (X'.set m ⟨{ rz with data := ry.data }, Dy, dny, dcy, Mz, mnz, mcz⟩) = nds X := by
                have h1 := HOK.out.rest
                unfold modA at h1
                rw [Int.toNat_natCast, HZR.out, HYR.out] at h1
                rw [nds_set, HR4.out]
                exact h1
              have hF10 := HF8.out
              have hbf : Below w.heap.size w w10 := by rw [← hw10]; exact ((HB8.out.trans (hb9.mono HB8.out.size)).setCell (p := ⟨gb, 0, none⟩) (by show w.heap.size ≤ gb; omega) _)
              have hX10 : Blk w10 w.heap.size 24 #[.slice (some ⟨g0, o0, none⟩) n c] := (HX8.out.below hb9 HX8.out.lt).below hb10 hfg
              obtain ⟨w11, hw11⟩ : ∃ W, w10.setCell ⟨g9, m * 6 + 3, none⟩ (.slice Dy dny dcy) = W := ⟨_, rfl⟩
              rw [hw11] at hF11
              have hbf11 : Below w.heap.size w w11 := by rw [← hw11]; exact hbf.setCell (p := ⟨g9, m * 6 + 3, none⟩) (by show w.heap.size ≤ g9; omega) _
              have hX11 : Blk w11 w.heap.size 24 #[.slice (some ⟨g0, o0, none⟩) n c] := by rw [← hw11]; exact hX10.far (p := ⟨g9, m * 6 + 3, none⟩) (by show w.heap.size ≠ g9; omega) _
              have hG11 : Blk w11 gb 24 #[.slice (some ⟨g9, 0, none⟩) n' cc1] := by rw [← hw11]; exact hG10.far (p := ⟨g9, m * 6 + 3, none⟩) (by show gb ≠ g9; omega) _
              have HB11 := hide hbf11
              have hF11' := HF.out w11 hbf11
              have hnn2 := HLN.out
              subst hnn2
              have XS := hide (rsame_any (some ⟨g0, o0, none⟩) (some ⟨g9, 0, none⟩) n' c cc1 X (X'.set m ⟨{ rz with data := ry.data }, Dy, dny, dcy, Mz, mnz, mcz⟩) w11 hF11' hF11 hls.symm (by omega) (fun x hx => by have := (hF11'.ok x hx).nl; have := (HFEW.out.each x hx).n; omega))
              have k9 := one_ hG9
              have k9z := hG9.frozen 0
              have k9l := hG9.lt
              have k10 := one_ hG10
              have k11 := one_ hG11
              have kx11 := one_ hX11
              clear hown hg hat hN h34 h45 hz9 hof9 hO9 hG9 hO10 hs10 hG10 hb10 hzX hfz hYD10 hoD hzok10 hzof10 hF11 hls hF10 hbf hX10 hbf11 hX11 hG11 hF11' hb9 k0 k1 k1z k1l kA1
              go_wp2_with (first | rw [hw10] | rw [hw11])
              refine XS.out.mono ?_
              rintro e w12 ⟨rfl, hb12⟩
              have HB12 := hide (HB11.out.trans (hb12.mono HB11.out.size))
              clear hb12 XS k9 k9z k9l k10 k11 kx11
              have XH := hide (heads_n w12 (HST.out.below HB12.out))
              go_wp2_with fail
              refine XH.out.mono ?_
              rintro e wz ⟨rfl, hbz⟩
              have HE := hide (HB12.out.trans (hbz.mono HB12.out.size))
              clear hbz XH
              go_wp2_with fail
              go_ret
              exact ⟨rfl, HE.out⟩
        · have hEb : (e0 != 0) = true := bne_iff_ne.2 h0
          obtain ⟨hl', hnn⟩ := write_no HT.out h0
          subst hl' hnn
          have hnn2 : n' = n := by
            have h2 := HO4.out.len
            have h3 := congrArg List.length HR4.out
            rw [nds_length, nds_length] at h3
            have h4 := (HF.out W4 HB4.out).len
            omega
          subst hnn2
          have XS := hide (rsame_any L L' n' c c' X X' W4 (HF.out W4 HB4.out) HO4.out.fs HR4.out.symm (by have := HFEW.out.n; have := (HF.out W4 HB4.out).len; omega) (fun x hx => by have := ((HF.out W4 HB4.out).ok x hx).nl; have := (HFEW.out.each x hx).n; omega))
          clear h0
          go_wp2_with (first | rw [hW4] | rw [hgb])
          refine XS.out.mono ?_
          rintro e w5 ⟨rfl, hb5⟩
          have HB5 := hide (HB4.out.trans (hb5.mono HB4.out.size))
          clear hb5 XS k0 k1
          have XH := hide (heads_n w5 (HST.out.below HB5.out))
          go_wp2_with fail
          refine XH.out.mono ?_
          rintro e wz ⟨rfl, hbz⟩
          have HE := hide (HB5.out.trans (hbz.mono HB5.out.size))
          clear hbz XH
          go_wp2_with fail
          go_ret
          exact ⟨rfl, HE.out⟩
      · have hm2 : (5000 : Int) < (bn : Int) := by omega
        have XH := hide (heads_n w3 (HST.out.below HB3.out))
        go_wp2_with fail
        refine XH.out.mono ?_
        rintro e wz ⟨rfl, hbz⟩
        have HE := hide (HB3.out.trans (hbz.mono HB3.out.size))
        clear hbz XH
        go_wp2_with fail
        go_ret
        exact ⟨rfl, HE.out⟩
end Go.Proofs.YtlcoapignfmgcaaDoor
