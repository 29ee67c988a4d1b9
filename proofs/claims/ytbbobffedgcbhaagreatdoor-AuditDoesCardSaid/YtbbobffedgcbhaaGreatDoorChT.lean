/- chain.read for chain.Scan. -/
import Derived.Test.YtbbobffedgcbhaaGreatDoorChGr
namespace Go.Proofs.YtbbobffedgcbhaaGreatDoor
open Go.RowKit
set_option linter.unusedVariables false
def ReadEnd (bs : LB) (p : Nat) (w : World) (ed : Ending) (w' : World) : Prop := ∃ D dn, ed = .returned (.tuple #[.slice D 32 dn, .int .i64 ((scanB bs).2.2 : Int)]) ∧ OwB w.heap.size w' D 32 dn (scanB bs).2.1 ∧ ∃ O co l, Blk w' p 31 #[.slice O l.length co] ∧ OutR (p + 1) w' O l.length co l ∧ l.map RV.r = (scanB bs).1 ∧ Below p w w'
theorem read_end {bs : LB} {p : Nat} {w : World} {l : List RV} {e : Nat} {h : LB} {O : Option Addr} {co : Nat} (H : scanB bs = (l.map RV.r, h, e)) (D : Option Addr) (dn : Nat) (w' : World) (h1 : OwB w.heap.size w' D 32 dn h) (h2 : Blk w' p 31 #[.slice O l.length co]) (h3 : OutR (p + 1) w' O l.length co l) (h4 : Below p w w') : ReadEnd bs p w (.returned (.tuple #[.slice D 32 dn, .int .i64 (e : Int)])) w' :=
  ⟨D, dn, by rw [H], by rw [H]; exact h1, O, co, l, h2, h3, by rw [H], h4⟩
theorem rv_fresh {w : World} {B : Nat} {A : Option Addr} {n c : Nat} {l : List RV} (h : OutR B w A n c l) {W : World} (hW : w.heap.size ≤ W.heap.size) {A' : Option Addr} {n' : Nat} (hf : 0 < n' → ∃ ad, A' = some ad ∧ W.heap.size ≤ ad.block) : ∀ ad, A' = some ad → 0 < n' → some ad.block ≠ (Value.slice A n c).ownBlock := by
  intro ad e h0 h1
  obtain ⟨ad2, e2, h2⟩ := hf h0
  have h3 := (h.1.lt ad.block h1.symm).2
  rw [e] at e2
  injection e2 with e2
  subst e2
  omega
set_option maxRecDepth 100000 in
set_option maxHeartbeats 8000000 in
theorem read_scan (A : Option Addr) (n c : Nat) (bs : LB) (p : Nat) (w : World) (hR : Reads w p 1 A n (bv bs)) (hnc : n ≤ c) (hn : n ≤ 30000) (hS : Std w) (hT : Tabs w) (hP : Blk w p 31 #[.slice none 0 0]) (hp2 : 5 < p) :
    Calls Tryz.prog 39 #[.slice A n c, .func (.func 40) #[] #[.pointer (some ⟨p, 0, none⟩)]] w (ReadEnd bs p w) := by
  have hpl := hP.lt
  have hl : bs.length = n := Rd.len (w := w) (A := A) (hR.more (Nat.le_of_lt hpl))
  have HR := hide hR
  have HS := hide hS
  have HT := hide hT
  have HP := hide hP
  have HL := hide hl
  clear hR hS hT hP hl
  go_enter Tryz.func39, Tryz.ntmps39
  go_wp2_with fail
  go_step3
  go_wp2_with fail
  refine (root_any w).mono ?_
  rintro e0 w0 ⟨rfl, hZ, hb0⟩
  have HB0 := hide (hb0.mono (Nat.le_of_lt hpl))
  have HP0 := hide (HP.out.below hb0 hpl)
  have HZ0 := hide hZ.rd
  clear hZ hb0
  go_wp2_with fail
  go_step3
  go_wp2_with fail
  go_loopw [6, 7, 8] (fun u6 u7 u8 wx => ∃ (l : List RV) (e : Nat) (h : LB) (ad : Addr) (dn co : Nat) (O : Option Addr), u6 = .slice (some ad) 32 dn ∧ u7 = .int .i64 (e : Int) ∧ u8 = .int .i64 (l.length : Int) ∧ Rd wx (some ad) 32 h ∧ 32 ≤ dn ∧ AtS bs (l.map RV.r) e h ∧ 34 * l.length ≤ e ∧ Blk wx p 31 #[.slice O l.length co] ∧ OutR (p + 1) wx O l.length co l ∧ Below p w wx) (fun _ i _ _ => n - (intOf i).toNat)
  case atStart =>
    exact ⟨[], 0, zero32, ⟨w.heap.size, 0, none⟩, 32, 0, none, rfl, rfl, rfl, HZ0.out, Nat.le_refl _, at_start bs, Nat.le_refl _, HP0.out, OutR.nil _ _, HB0.out⟩
  case round =>
    clear HZ0 HP0 HB0
    obtain ⟨l, e, h, ad, dn, co, O, rfl, rfl, rfl, hD, hdn, hat, hfew, hPx, hOx, hbx⟩ := hrel
    have he : e ≤ n := by have := hat.1; rw [HL.out] at this; exact this
    have HD := hide hD
    have HPX := hide hPx
    have HOX := hide hOx
    have HBX := hide hbx
    have HAT := hide hat
    have hpw : p < wr.heap.size := hPx.lt
    have hsl := fun W => sl_from A n c e .i64 (e : Int) rfl he W
    have hr2 : Reads wr p 1 (from_ c e A) (n - e) (bv (bs.drop e)) := by
      have := reads_from (HR.out.below hbx) he hnc
      rwa [← bv_drop] at this
    have HLL : Hid ((l.map RV.r).length = l.length) := hide (List.length_map ..)
    generalize from_ c e A = AA at *
    obtain ⟨cc, hcc⟩ : ∃ cc, c - e = cc := ⟨_, rfl⟩
    obtain ⟨mm, hmm⟩ : ∃ mm, n - e = mm := ⟨_, rfl⟩
    rw [hcc, hmm] at hsl
    rw [hmm] at hr2
    have HMC : mm ≤ cc := by omega
    have HMN : mm ≤ n := by omega
    have HR2 := hide hr2
    clear hcc hmm hD hPx hOx hbx hat hr2
    cases hc : cutP (bs.drop e) with
    | none =>
      have XC := hide (cut_no hc AA mm cc p wr HR2.out (Nat.le_of_lt hpw) HMC (by omega))
      have HX := hide (read_end (p := p) (w := w) (O := O) (co := co) (at_end HAT.out (next_nocut hc)))
      clear hc
      go_wp2_with fail
      refine XC.out.mono ?_
      rintro e1 w1 ⟨rfl, hb1⟩
      have HB1 := hide hb1
      clear hb1 XC
      have HBL := hide (HB1.out)
      have HDL := hide (rb HD.out HBL.out)
      have HPL := hide (HPX.out.below HBL.out HPX.out.lt)
      have HOL := hide (OutR.below HOX.out HBL.out)
      have HBW := hide (Below.trans HBX.out (HBL.out.mono (Nat.le_of_lt HPX.out.lt)))
      go_wp2_with fail
      refine (bclone_any ad 32 dn h _ HDL.out (by omega)).mono ?_
      rintro ed w9 ⟨v9, rfl, ho9, hb9⟩
      obtain ⟨A9, c9, rfl⟩ := own_slice ho9
      have H9 := hide (HX.out A9 c9 w9 (own_more ho9 HBW.out.size) (HPL.out.below hb9 HPL.out.lt) (OutR.below HOL.out hb9) (Below.trans HBW.out (hb9.mono (Nat.le_of_lt HPL.out.lt))))
      clear ho9 hb9 HX HDL HPL HOL HBW HBL
      go_wp2_with fail
      refine bodyPost_ret (v := .tuple #[.slice A9 32 c9, .int .i64 (e : Int)]) (by simp only [results, Tryz.results39]; go_simp) rfl H9.out
    | some bo =>
      obtain ⟨body, own⟩ := bo
      have XC := hide (cut_yes hc AA mm cc p wr HR2.out (Nat.le_of_lt hpw) HMC (by omega))
      obtain ⟨q1, q2, q3, _, _, _⟩ := cut_some hc
      have hbl : body.length ≤ n := by rw [List.length_drop, HL.out] at q3; omega
      have hbl2 : e + (2 + body.length + 32) ≤ n := by rw [List.length_drop, HL.out] at q3; omega
      have HC := hide hc
      have HBE := hide hbl2
      obtain ⟨bl, hbl0⟩ : ∃ x, body.length = x := ⟨_, rfl⟩
      unfold CutYes at XC
      rw [hbl0] at hbl HBE XC
      have HB0 := hide hbl0
      clear hc q1 q2 q3 hbl2 hbl0
      go_wp2_with fail
      refine XC.out.mono ?_
      rintro e1 w1 ⟨A1, A2, rfl, r1, r2, hne2, hb1⟩
      obtain ⟨ad2, rfl⟩ := Option.ne_none_iff_exists'.1 hne2
      have hp1 : p < w1.heap.size := Nat.lt_of_lt_of_le hpw hb1.size
      have HTW : Tabs w1 := HT.out.low hp2 (Below.trans HBX.out (hb1.mono (Nat.le_of_lt hpw)))
      have XH := hide (chain_any (some ad) A1 32 dn bl bl h body w1 (rb HD.out hb1) hdn (by omega) (r1.more (Nat.le_of_lt hp1)) (Nat.le_refl _) (by omega) HTW.1 HTW.2.1 HTW.2.2)
      have R1 := hide r1
      have R2 := hide r2
      have HB1 := hide hb1
      clear hb1 XC r1 r2 hne2 HTW
      go_wp2_with fail
      refine XH.out.mono ?_
      rintro e2 w2 ⟨A3, c3, rfl, ho3, hb2⟩
      have HB2 := hide (HB1.out.trans (hb2.mono HB1.out.size))
      have hp3 : p < w2.heap.size := Nat.lt_of_lt_of_le hp1 hb2.size
      have R1b := hide (R1.out.below (hb2.mono (Nat.le_of_lt hp1)))
      have R2b := hide (R2.out.below (hb2.mono (Nat.le_of_lt hp1)))
      have XE := hide (beq_any (some ad2) A3 32 32 32 c3 own (digP h body) w2 p w2.heap.size R2b.out (Reads.of_own ho3))
      clear ho3 hb2 XH R1 R2 HB1
      go_wp2_with fail
      refine XE.out.mono ?_
      rintro e3 w3 ⟨rfl, rfl⟩
      clear XE
      cases hdg : (own == digP h body) with
      | false =>
        have HX := hide (read_end (p := p) (w := w) (O := O) (co := co) (at_end HAT.out (next_nodig HC.out (by simpa using hdg))))
        clear hdg
        have HBL := hide (HB2.out)
        have HDL := hide (rb HD.out HBL.out)
        have HPL := hide (HPX.out.below HBL.out HPX.out.lt)
        have HOL := hide (OutR.below HOX.out HBL.out)
        have HBW := hide (Below.trans HBX.out (HBL.out.mono (Nat.le_of_lt HPX.out.lt)))
        go_wp2_with fail
        refine (bclone_any ad 32 dn h _ HDL.out (by omega)).mono ?_
        rintro ed w9 ⟨v9, rfl, ho9, hb9⟩
        obtain ⟨A9, c9, rfl⟩ := own_slice ho9
        have H9 := hide (HX.out A9 c9 w9 (own_more ho9 HBW.out.size) (HPL.out.below hb9 HPL.out.lt) (OutR.below HOL.out hb9) (Below.trans HBW.out (hb9.mono (Nat.le_of_lt HPL.out.lt))))
        clear ho9 hb9 HX HDL HPL HOL HBW HBL
        go_wp2_with fail
        refine bodyPost_ret (v := .tuple #[.slice A9 32 c9, .int .i64 (e : Int)]) (by simp only [results, Tryz.results39]; go_simp) rfl H9.out
      | true =>
        have HDG : Hid (own = digP h body) := hide (by simpa using hdg)
        clear hdg
        have HSW : Std w2 := HS.out.low (by omega) (Below.trans HBX.out (HB2.out.mono (Nat.le_of_lt hpw)))
        cases hdc : decP body with
        | none =>
          have XD := hide (dec_none hdc A1 bl bl w2 (R1b.out.more (Nat.le_of_lt hp3)) (Nat.le_refl _) (by omega) HSW)
          have HX := hide (read_end (p := p) (w := w) (O := O) (co := co) (at_end HAT.out (next_nodec HC.out hdc)))
          unfold Rec.v zR at XD
          dsimp only at XD
          clear hdc HSW
          go_wp2_with fail
          refine XD.out.mono ?_
          rintro e4 w4 ⟨A4, n4, c4, rfl, h41, h42, h43, h44, h45⟩
          have HB4 := hide (HB2.out.trans (h44.mono HB2.out.size))
          clear h41 h42 h43 h44 h45 XD
          have HBL := hide ((HB4.out.alloc HB4.out.size (.cells #[.int .i64 0, .int .i64 0, .string ⟨#[]⟩, .string ⟨#[]⟩, .slice A4 n4 c4, .bool false] 28)))
          have HDL := hide (rb HD.out HBL.out)
          have HPL := hide (HPX.out.below HBL.out HPX.out.lt)
          have HOL := hide (OutR.below HOX.out HBL.out)
          have HBW := hide (Below.trans HBX.out (HBL.out.mono (Nat.le_of_lt HPX.out.lt)))
          go_wp2_with fail
          refine (bclone_any ad 32 dn h _ HDL.out (by omega)).mono ?_
          rintro ed w9 ⟨v9, rfl, ho9, hb9⟩
          obtain ⟨A9, c9, rfl⟩ := own_slice ho9
          have H9 := hide (HX.out A9 c9 w9 (own_more ho9 HBW.out.size) (HPL.out.below hb9 HPL.out.lt) (OutR.below HOL.out hb9) (Below.trans HBW.out (hb9.mono (Nat.le_of_lt HPL.out.lt))))
          clear ho9 hb9 HX HDL HPL HOL HBW HBL
          go_wp2_with fail
          refine bodyPost_ret (v := .tuple #[.slice A9 32 c9, .int .i64 (e : Int)]) (by simp only [results, Tryz.results39]; go_simp) rfl H9.out
        | some r =>
          obtain ⟨sq, op, pa, pb, dg, al⟩ := r
          have XD := hide (dec_some hdc A1 bl bl w2 (R1b.out.more (Nat.le_of_lt hp3)) (Nat.le_refl _) (by omega) HSW)
          unfold Rec.v at XD
          dsimp only at XD
          clear HSW
          have HDC := hide hdc
          clear hdc
          go_wp2_with fail
          refine XD.out.mono ?_
          rintro e4 w4 ⟨A4, n4, c4, rfl, h41, h42, h43, h44, h45⟩
          have HB4 := hide (HB2.out.trans (h44.mono HB2.out.size))
          have HF4 := hide (rv_fresh (OutR.below HOX.out HB2.out) (Nat.le_refl _) h45)
          have H41 := hide h41
          have H42 := hide h42
          have R2c := hide (R2b.out.below (h44.mono (Nat.le_of_lt hp3)))
          clear h41 h42 h43 h44 h45 XD R2b R1b
          obtain ⟨WL, hWL⟩ : ∃ W, w4.alloc (.cells #[.int .i64 sq, .int .i64 op, .string ⟨pa.toArray⟩, .string ⟨pb.toArray⟩, .slice A4 n4 c4, .bool al] 28) = W := ⟨_, rfl⟩
          have hba : Below w4.heap.size w4 WL := by rw [← hWL]; exact bl_alloc _ _
          have HBW4 : Hid (Below wr.heap.size wr WL) := hide (HB4.out.trans (hba.mono HB4.out.size))
          have hz := Blk.new w4 28 #[.int .i64 sq, .int .i64 op, .string ⟨pa.toArray⟩, .string ⟨pb.toArray⟩, .slice A4 n4 c4, .bool al]
          rw [hWL] at hz
          obtain ⟨z0, z1, z2, z3, z4, z5⟩ := hz.six
          have hzl := hz.lt
          have HBA := hide hba
          clear hba hz
          by_cases hsq : sq = (l.length : Int)
          · have tsq : (sq != (l.length : Int)) = false := by rw [hsq]; simp
            have hnx := hide (next_yes HC.out HDG.out HDC.out (k := l.length) hsq)
            rw [HB0.out] at hnx
            have hbe := HBE.out
            have HPL := hide (HPX.out.below HBW4.out HPX.out.lt)
            have HOL := hide (OutR.below HOX.out HBW4.out)
            have XS := hide (scan1_any ⟨⟨sq, op, pa, pb, dg, al⟩, A4, n4, c4⟩ p (p + 1) O l.length co l WL HPL.out (Nat.lt_succ_self _) HPL.out.lt HOL.out ((show RVok w4 ⟨⟨sq, op, pa, pb, dg, al⟩, A4, n4, c4⟩ from ⟨H41.out, H42.out⟩).below HBA.out) HF4.out (by omega))
            unfold RV.v Rec.v at XS
            dsimp only at XS
            have v1 : IntKind.i64.wrap (2 + (bl : Int)) = 2 + (bl : Int) := by simp [IntKind.wrap, IntKind.bits, IntKind.signed]; omega
            have v2 : IntKind.i64.wrap (2 + (bl : Int) + 32) = 2 + (bl : Int) + 32 := by simp [IntKind.wrap, IntKind.bits, IntKind.signed]; omega
            have v3 : IntKind.i64.wrap ((e : Int) + (2 + (bl : Int) + 32)) = (e : Int) + (2 + (bl : Int) + 32) := by simp [IntKind.wrap, IntKind.bits, IntKind.signed]; omega
            have v4 : IntKind.i64.wrap ((l.length : Int) + 1) = (l.length : Int) + 1 := by simp [IntKind.wrap, IntKind.bits, IntKind.signed]; omega
            have HN : Hid (AtS bs ((l ++ [(⟨⟨sq, op, pa, pb, dg, al⟩, A4, n4, c4⟩ : RV)]).map RV.r) (e + (2 + bl + 32)) own) := hide (by
              rw [List.map_append]
              exact at_step HAT.out (by rw [HLL.out]; exact hnx.out))
            have HR5 := hide (R2c.out.below ((HBA.out).mono (by have := HB4.out.size; omega)))
            clear hnx HPX HOX HAT HF4 H41 H42 HD R2c HC HDG HDC HLL hsq
            go_wp2_with fail
            refine XS.out.mono ?_
            rintro e5 w5 ⟨rfl, O5, co5, hP5, hO5, hb5⟩
            have HBN := hide (Below.trans HBX.out ((HBW4.out.mono (Nat.le_of_lt hpw)).trans hb5))
            have HP5 := hide hP5
            have HO5 := hide hO5
            have HD5 := hide ((HR5.out.below hb5).more (Nat.le_of_lt hP5.lt))
            clear hP5 hO5 hb5 XS HPL HOL HBA HBW4 HB4 HB2 HBX z0 z1 z2 z3 z4 z5 hzl
            go_wp2_with fail
            clear v1 v2 v3 v4 tsq
            go_roundw
            case rel =>
              exact ⟨l ++ [⟨⟨sq, op, pa, pb, dg, al⟩, A4, n4, c4⟩], e + (2 + bl + 32), own, ad2, 32, co5, O5, rfl, by go_num, by simp, HD5.out, Nat.le_refl _, HN.out, by simp; omega, by simpa using HP5.out, by simpa using HO5.out, HBN.out⟩
            case measure => simp [intOf]; omega
          · have tsq : (sq != (l.length : Int)) = true := by rw [bne_iff_ne]; exact hsq
            have HX := hide (read_end (p := p) (w := w) (O := O) (co := co) (at_end HAT.out (next_noseq HC.out HDC.out (by rw [HLL.out]; exact hsq))))
            clear z1 z2 z3 z4 z5 HF4 H41 H42 R2c HC HDG HDC hsq
            have HBL := hide (HBW4.out)
            have HDL := hide (rb HD.out HBL.out)
            have HPL := hide (HPX.out.below HBL.out HPX.out.lt)
            have HOL := hide (OutR.below HOX.out HBL.out)
            have HBW := hide (Below.trans HBX.out (HBL.out.mono (Nat.le_of_lt HPX.out.lt)))
            go_wp2_with fail
            refine (bclone_any ad 32 dn h _ HDL.out (by omega)).mono ?_
            rintro ed w9 ⟨v9, rfl, ho9, hb9⟩
            obtain ⟨A9, c9, rfl⟩ := own_slice ho9
            have H9 := hide (HX.out A9 c9 w9 (own_more ho9 HBW.out.size) (HPL.out.below hb9 HPL.out.lt) (OutR.below HOL.out hb9) (Below.trans HBW.out (hb9.mono (Nat.le_of_lt HPL.out.lt))))
            clear ho9 hb9 HX HDL HPL HOL HBW HBL
            go_wp2_with fail
            refine bodyPost_ret (v := .tuple #[.slice A9 32 c9, .int .i64 (e : Int)]) (by simp only [results, Tryz.results39]; go_simp) rfl H9.out
end Go.Proofs.YtbbobffedgcbhaaGreatDoor
