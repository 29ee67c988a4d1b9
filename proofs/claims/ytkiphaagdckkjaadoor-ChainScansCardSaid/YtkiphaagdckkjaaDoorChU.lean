/- chain.read for chain.Verify and chain.Head. -/
import Derived.Test.YtkiphaagdckkjaaDoorChT
namespace Go.Proofs.YtkiphaagdckkjaaDoor
open Go.RowKit
set_option linter.unusedVariables false
def ReadV (bs : LB) (w : World) (ed : Ending) (w' : World) : Prop := ∃ D dn, ed = .returned (.tuple #[.slice D 32 dn, .int .i64 ((scanB bs).2.2 : Int)]) ∧ Below w.heap.size w w'
theorem readv_end {bs : LB} {w : World} {l : List Rec} {e : Nat} {h : LB} (H : scanB bs = (l, h, e)) (D : Option Addr) (dn : Nat) (w' : World) (h4 : Below w.heap.size w w') : ReadV bs w (.returned (.tuple #[.slice D 32 dn, .int .i64 (e : Int)])) w' :=
  ⟨D, dn, by rw [H], h4⟩
set_option maxRecDepth 100000 in
set_option maxHeartbeats 8000000 in
theorem read_verify (A : Option Addr) (n c : Nat) (bs : LB) (w : World) (hR : Reads w w.heap.size 1 A n (bv bs)) (hnc : n ≤ c) (hn : n ≤ 30000) (hS : Std w) (hT : Tabs w) :
    Calls Tryd.prog 31 #[.slice A n c, .func (.func 35) #[] #[]] w (ReadV bs w) := by
  have hq0 : w.heap.size ≤ w.heap.size := Nat.le_refl _
  have hp2 : 2 < w.heap.size := hT.2.2
  have hl : bs.length = n := Rd.len (w := w) (A := A) (hR.more hq0)
  have HR := hide hR
  have HS := hide hS
  have HT := hide hT
  have HL := hide hl
  clear hR hS hT hl
  go_enter Tryd.func31, Tryd.ntmps31
  go_wp2_with fail
  go_step3
  go_wp2_with fail
  refine (root_any w).mono ?_
  rintro e0 w0 ⟨rfl, hZ, hb0⟩
  have HB0 := hide (hb0.mono hq0)
  have HZ0 := hide hZ.rd
  clear hZ hb0
  go_wp2_with fail
  go_step3
  go_wp2_with fail
  go_loopw [6, 7, 8] (fun u6 u7 u8 wx => ∃ (l : List Rec) (e : Nat) (h : LB) (ad : Addr) (dn : Nat), u6 = .slice (some ad) 32 dn ∧ u7 = .int .i64 (e : Int) ∧ u8 = .int .i64 (l.length : Int) ∧ Rd wx (some ad) 32 h ∧ 32 ≤ dn ∧ AtS bs l e h ∧ 34 * l.length ≤ e ∧ Below w.heap.size w wx) (fun _ i _ _ => n - (intOf i).toNat)
  case atStart =>
    exact ⟨[], 0, zero32, ⟨w.heap.size, 0, none⟩, 32, rfl, rfl, rfl, HZ0.out, Nat.le_refl _, at_start bs, Nat.le_refl _, HB0.out⟩
  case round =>
    clear HZ0 HB0
    obtain ⟨l, e, h, ad, dn, rfl, rfl, rfl, hD, hdn, hat, hfew, hbx⟩ := hrel
    have he : e ≤ n := by have := hat.1; rw [HL.out] at this; exact this
    have HD := hide hD
    have HBX := hide hbx
    have HAT := hide hat
    have hpw : w.heap.size ≤ wr.heap.size := Nat.le_trans hq0 hbx.size
    have hsl := fun W => sl_from A n c e .i64 (e : Int) rfl he W
    have hr2 : Reads wr w.heap.size 1 (from_ c e A) (n - e) (bv (bs.drop e)) := by
      have := reads_from (HR.out.below hbx) he hnc
      rwa [← bv_drop] at this
    generalize from_ c e A = AA at *
    obtain ⟨cc, hcc⟩ : ∃ cc, c - e = cc := ⟨_, rfl⟩
    obtain ⟨mm, hmm⟩ : ∃ mm, n - e = mm := ⟨_, rfl⟩
    rw [hcc, hmm] at hsl
    rw [hmm] at hr2
    have HMC : mm ≤ cc := by omega
    have HMN : mm ≤ n := by omega
    have HR2 := hide hr2
    clear hcc hmm hD hbx hat hr2
    cases hc : cutP (bs.drop e) with
    | none =>
      have XC := hide (cut_no hc AA mm cc w.heap.size wr HR2.out hpw HMC (by omega))
      have HX := hide (readv_end (w := w) (at_end HAT.out (next_nocut hc)))
      clear hc
      go_wp2_with fail
      refine XC.out.mono ?_
      rintro e1 w1 ⟨rfl, hb1⟩
      have HB1 := hide hb1
      clear hb1 XC
      have HBL := hide (HB1.out)
      have HDL := hide (rb HD.out HBL.out)
      have HBW := hide (Below.trans HBX.out (HBL.out.mono hpw))
      go_wp2_with fail
      refine (bclone_any ad 32 dn h _ HDL.out (by omega)).mono ?_
      rintro ed w9 ⟨v9, rfl, ho9, hb9⟩
      obtain ⟨A9, c9, rfl⟩ := own_slice ho9
      have H9 := hide (HX.out A9 c9 w9 (Below.trans HBW.out (hb9.mono HBW.out.size)))
      clear ho9 hb9 HX HDL HBW HBL
      go_wp2_with fail
      refine bodyPost_ret (v := .tuple #[.slice A9 32 c9, .int .i64 (e : Int)]) (by simp only [results, Tryd.results31]; go_simp) rfl H9.out
    | some bo =>
      obtain ⟨body, own⟩ := bo
      have XC := hide (cut_yes hc AA mm cc w.heap.size wr HR2.out hpw HMC (by omega))
      obtain ⟨q1, q2, q3, _, _, _⟩ := cut_some hc
      have hbl : body.length ≤ n := by rw [List.length_drop, HL.out] at q3; omega
      have hbl2 : e + (2 + body.length + 32) ≤ n := by rw [List.length_drop, HL.out] at q3; omega
      have HC := hide hc
      have HBE := hide hbl2
      obtain ⟨bl, hbl0⟩ : ∃ x, body.length = x := ⟨_, rfl⟩
      unfold CutYes at XC
      rw [hbl0] at hbl HBE XC
      have HBL0 := hide hbl0
      clear hc q1 q2 q3 hbl2 hbl0
      go_wp2_with fail
      refine XC.out.mono ?_
      rintro e1 w1 ⟨A1, A2, rfl, r1, r2, hne2, hb1⟩
      obtain ⟨ad2, rfl⟩ := Option.ne_none_iff_exists'.1 hne2
      have hp1 : w.heap.size ≤ w1.heap.size := Nat.le_trans hpw hb1.size
      have HTW : Tabs w1 := HT.out.low hp2 (Below.trans HBX.out (hb1.mono hpw))
      have XH := hide (chain_any (some ad) A1 32 dn bl bl h body w1 (rb HD.out hb1) hdn (by omega) (r1.more hp1) (Nat.le_refl _) (by omega) HTW.1 HTW.2.1 HTW.2.2)
      have R1 := hide r1
      have R2 := hide r2
      have HB1 := hide hb1
      clear hb1 XC r1 r2 hne2 HTW
      go_wp2_with fail
      refine XH.out.mono ?_
      rintro e2 w2 ⟨A3, c3, rfl, ho3, hb2⟩
      have HB2 := hide (HB1.out.trans (hb2.mono HB1.out.size))
      have hp3 : w.heap.size ≤ w2.heap.size := Nat.le_trans hp1 hb2.size
      have R1b := hide (R1.out.below (hb2.mono hp1))
      have R2b := hide (R2.out.below (hb2.mono hp1))
      have XE := hide (beq_any (some ad2) A3 32 32 32 c3 own (digP h body) w2 w.heap.size w2.heap.size R2b.out (Reads.of_own ho3))
      clear ho3 hb2 XH R1 R2 HB1
      go_wp2_with fail
      refine XE.out.mono ?_
      rintro e3 w3 ⟨rfl, rfl⟩
      clear XE
      cases hdg : (own == digP h body) with
      | false =>
        have HX := hide (readv_end (w := w) (at_end HAT.out (next_nodig HC.out (by simpa using hdg))))
        clear hdg
        have HBL := hide (HB2.out)
        have HDL := hide (rb HD.out HBL.out)
        have HBW := hide (Below.trans HBX.out (HBL.out.mono hpw))
        go_wp2_with fail
        refine (bclone_any ad 32 dn h _ HDL.out (by omega)).mono ?_
        rintro ed w9 ⟨v9, rfl, ho9, hb9⟩
        obtain ⟨A9, c9, rfl⟩ := own_slice ho9
        have H9 := hide (HX.out A9 c9 w9 (Below.trans HBW.out (hb9.mono HBW.out.size)))
        clear ho9 hb9 HX HDL HBW HBL
        go_wp2_with fail
        refine bodyPost_ret (v := .tuple #[.slice A9 32 c9, .int .i64 (e : Int)]) (by simp only [results, Tryd.results31]; go_simp) rfl H9.out
      | true =>
        have HDG : Hid (own = digP h body) := hide (by simpa using hdg)
        clear hdg
        have HSW : Std w2 := HS.out.low (by omega) (Below.trans HBX.out (HB2.out.mono hpw))
        cases hdc : decP body with
        | none =>
          have XD := hide (dec_none hdc A1 bl bl w2 (R1b.out.more hp3) (Nat.le_refl _) (by omega) HSW)
          have HX := hide (readv_end (w := w) (at_end HAT.out (next_nodec HC.out hdc)))
          unfold Rec.v zR at XD
          dsimp only at XD
          clear hdc HSW
          go_wp2_with fail
          refine XD.out.mono ?_
          rintro e4 w4 ⟨A4, n4, c4, rfl, h41, h42, h43, h44, h45⟩
          have HB4 := hide (HB2.out.trans (h44.mono HB2.out.size))
          clear h41 h42 h43 h44 h45 XD
          have HBL := hide ((HB4.out.alloc HB4.out.size (.cells #[.int .i64 0, .int .i64 0, .string ⟨#[]⟩, .string ⟨#[]⟩, .slice A4 n4 c4, .bool false] 24)))
          have HDL := hide (rb HD.out HBL.out)
          have HBW := hide (Below.trans HBX.out (HBL.out.mono hpw))
          go_wp2_with fail
          refine (bclone_any ad 32 dn h _ HDL.out (by omega)).mono ?_
          rintro ed w9 ⟨v9, rfl, ho9, hb9⟩
          obtain ⟨A9, c9, rfl⟩ := own_slice ho9
          have H9 := hide (HX.out A9 c9 w9 (Below.trans HBW.out (hb9.mono HBW.out.size)))
          clear ho9 hb9 HX HDL HBW HBL
          go_wp2_with fail
          refine bodyPost_ret (v := .tuple #[.slice A9 32 c9, .int .i64 (e : Int)]) (by simp only [results, Tryd.results31]; go_simp) rfl H9.out
        | some rc =>
          obtain ⟨sq, op, pa, pb, dg, al⟩ := rc
          have XD := hide (dec_some hdc A1 bl bl w2 (R1b.out.more hp3) (Nat.le_refl _) (by omega) HSW)
          unfold Rec.v at XD
          dsimp only at XD
          clear HSW
          have HDC := hide hdc
          clear hdc
          go_wp2_with fail
          refine XD.out.mono ?_
          rintro e4 w4 ⟨A4, n4, c4, rfl, h41, h42, h43, h44, h45⟩
          have HB4 := hide (HB2.out.trans (h44.mono HB2.out.size))
          have R2c := hide (R2b.out.below (h44.mono hp3))
          clear h41 h42 h43 h44 h45 XD R2b R1b
          obtain ⟨WL, hWL⟩ : ∃ W, w4.alloc (.cells #[.int .i64 sq, .int .i64 op, .string ⟨pa.toArray⟩, .string ⟨pb.toArray⟩, .slice A4 n4 c4, .bool al] 24) = W := ⟨_, rfl⟩
          have hba : Below w4.heap.size w4 WL := by rw [← hWL]; exact bl_alloc _ _
          have HBW4 : Hid (Below wr.heap.size wr WL) := hide (HB4.out.trans (hba.mono HB4.out.size))
          have hz := Blk.new w4 24 #[.int .i64 sq, .int .i64 op, .string ⟨pa.toArray⟩, .string ⟨pb.toArray⟩, .slice A4 n4 c4, .bool al]
          rw [hWL] at hz
          obtain ⟨z0, z1, z2, z3, z4, z5⟩ := hz.six
          have hzl := hz.lt
          have HBA := hide hba
          clear hba hz
          by_cases hsq : sq = (l.length : Int)
          · have tsq : (sq != (l.length : Int)) = false := by rw [hsq]; simp
            have hnx := hide (next_yes HC.out HDG.out HDC.out (k := l.length) hsq)
            rw [HBL0.out] at hnx
            have hbe := HBE.out
            have XS := hide (verify1_any ⟨⟨sq, op, pa, pb, dg, al⟩, A4, n4, c4⟩ WL)
            unfold RV.v Rec.v at XS
            dsimp only at XS
            have v1 : IntKind.i64.wrap (2 + (bl : Int)) = 2 + (bl : Int) := by simp [IntKind.wrap, IntKind.bits, IntKind.signed]; omega
            have v2 : IntKind.i64.wrap (2 + (bl : Int) + 32) = 2 + (bl : Int) + 32 := by simp [IntKind.wrap, IntKind.bits, IntKind.signed]; omega
            have v3 : IntKind.i64.wrap ((e : Int) + (2 + (bl : Int) + 32)) = (e : Int) + (2 + (bl : Int) + 32) := by simp [IntKind.wrap, IntKind.bits, IntKind.signed]; omega
            have v4 : IntKind.i64.wrap ((l.length : Int) + 1) = (l.length : Int) + 1 := by simp [IntKind.wrap, IntKind.bits, IntKind.signed]; omega
            have HN : Hid (AtS bs (l ++ [⟨sq, op, pa, pb, dg, al⟩]) (e + (2 + bl + 32)) own) := hide (at_step HAT.out hnx.out)
            have HR5 := hide (R2c.out.below ((HBA.out).mono (by have := HB4.out.size; omega)))
            clear hnx HAT HD R2c HC HDG HDC hsq
            go_wp2_with fail
            refine XS.out.mono ?_
            rintro e5 w5 ⟨rfl, hb5⟩
            have hb5' : Below w.heap.size WL w5 := hb5.mono (by have := HBW4.out.size; omega)
            have HBN := hide (Below.trans HBX.out ((HBW4.out.mono hpw).trans hb5'))
            have HD5 := hide ((HR5.out.below hb5').more HBN.out.size)
            clear hb5 hb5' XS HBA HBW4 HB4 HB2 HBX z0 z1 z2 z3 z4 z5 hzl
            go_wp2_with fail
            clear v1 v2 v3 v4 tsq
            go_roundw
            case rel =>
              exact ⟨l ++ [⟨sq, op, pa, pb, dg, al⟩], e + (2 + bl + 32), own, ad2, 32, rfl, by go_num, by simp, HD5.out, Nat.le_refl _, HN.out, by simp; omega, HBN.out⟩
            case measure => simp [intOf]; omega
          · have tsq : (sq != (l.length : Int)) = true := by rw [bne_iff_ne]; exact hsq
            have HX := hide (readv_end (w := w) (at_end HAT.out (next_noseq HC.out HDC.out hsq)))
            clear z1 z2 z3 z4 z5 R2c HC HDG HDC hsq
            have HBL := hide (HBW4.out)
            have HDL := hide (rb HD.out HBL.out)
            have HBW := hide (Below.trans HBX.out (HBL.out.mono hpw))
            go_wp2_with fail
            refine (bclone_any ad 32 dn h _ HDL.out (by omega)).mono ?_
            rintro ed w9 ⟨v9, rfl, ho9, hb9⟩
            obtain ⟨A9, c9, rfl⟩ := own_slice ho9
            have H9 := hide (HX.out A9 c9 w9 (Below.trans HBW.out (hb9.mono HBW.out.size)))
            clear ho9 hb9 HX HDL HBW HBL
            go_wp2_with fail
            refine bodyPost_ret (v := .tuple #[.slice A9 32 c9, .int .i64 (e : Int)]) (by simp only [results, Tryd.results31]; go_simp) rfl H9.out
/-- Where Head's counting stops. -/
def HeadAt (bs : LB) (m : Int) (k e : Nat) : Prop := ∃ l h, AtS bs l e h ∧ l.length = k ∧ ((k : Int) < m → scanB bs = (l, h, e)) ∧ ((k : Int) ≤ m)
def ReadH (bs : LB) (p r : Nat) (m : Int) (w : World) (ed : Ending) (w' : World) : Prop := ∃ D dn k e, ed = .returned (.tuple #[.slice D 32 dn, .int .i64 ((e : Nat) : Int)]) ∧ HeadAt bs m k e ∧ Blk w' p 3 #[.int .i64 (k : Int)] ∧ Blk w' r 3 #[.int .i64 m] ∧ Below (min p r) w w'
theorem readh_end {bs : LB} {p r : Nat} {w : World} {m : Int} {k e : Nat} (H : HeadAt bs m k e) (D : Option Addr) (dn : Nat) (w' : World) (h2 : Blk w' p 3 #[.int .i64 (k : Int)]) (h3 : Blk w' r 3 #[.int .i64 m]) (h4 : Below (min p r) w w') : ReadH bs p r m w (.returned (.tuple #[.slice D 32 dn, .int .i64 (e : Int)])) w' :=
  ⟨D, dn, k, e, rfl, H, h2, h3, h4⟩
theorem head_at_end {bs : LB} {m : Int} {l : List Rec} {e : Nat} {h : LB} (H : AtS bs l e h) (hm : (l.length : Int) < m) (hn : nextP h l.length (bs.drop e) = none) : HeadAt bs m l.length e := ⟨l, h, H, rfl, fun _ => at_end H hn, by omega⟩
theorem head_at_stop {bs : LB} {m : Int} {l : List Rec} {e : Nat} {h : LB} (H : AtS bs l e h) {k : Nat} (hk : l.length = k) (hm : (k : Int) = m) : HeadAt bs m k e := ⟨l, h, H, hk, fun h => by omega, by omega⟩
set_option maxRecDepth 100000 in
set_option maxHeartbeats 8000000 in
theorem read_head (A : Option Addr) (n c : Nat) (bs : LB) (p r : Nat) (m : Int) (w : World) (hR : Reads w (min p r) 1 A n (bv bs)) (hnc : n ≤ c) (hn : n ≤ 30000) (hS : Std w) (hT : Tabs w) (hP : Blk w p 3 #[.int .i64 0]) (hQ : Blk w r 3 #[.int .i64 m]) (hpr : p ≠ r) (hp2 : 2 < min p r) (hm : 0 < m) :
    Calls Tryd.prog 31 #[.slice A n c, .func (.func 34) #[] #[.pointer (some ⟨p, 0, none⟩), .pointer (some ⟨r, 0, none⟩)]] w (ReadH bs p r m w) := by
  have hq0 : min p r ≤ w.heap.size := by have := hP.lt; omega
  have HP := hide hP
  have HQ := hide hQ
  clear hP hQ
  have hl : bs.length = n := Rd.len (w := w) (A := A) (hR.more hq0)
  have HR := hide hR
  have HS := hide hS
  have HT := hide hT
  have HL := hide hl
  clear hR hS hT hl
  go_enter Tryd.func31, Tryd.ntmps31
  go_wp2_with fail
  go_step3
  go_wp2_with fail
  refine (root_any w).mono ?_
  rintro e0 w0 ⟨rfl, hZ, hb0⟩
  have HB0 := hide (hb0.mono hq0)
  have HP0 := hide (HP.out.below hb0 HP.out.lt)
  have HQ0 := hide (HQ.out.below hb0 HQ.out.lt)
  have HZ0 := hide hZ.rd
  clear hZ hb0
  go_wp2_with fail
  go_step3
  go_wp2_with fail
  go_loopw [6, 7, 8] (fun u6 u7 u8 wx => ∃ (l : List Rec) (e : Nat) (h : LB) (ad : Addr) (dn : Nat), u6 = .slice (some ad) 32 dn ∧ u7 = .int .i64 (e : Int) ∧ u8 = .int .i64 (l.length : Int) ∧ Rd wx (some ad) 32 h ∧ 32 ≤ dn ∧ AtS bs l e h ∧ 34 * l.length ≤ e ∧ (l.length : Int) < m ∧ Blk wx p 3 #[.int .i64 (l.length : Int)] ∧ Blk wx r 3 #[.int .i64 m] ∧ Below (min p r) w wx) (fun _ i _ _ => n - (intOf i).toNat)
  case atStart =>
    exact ⟨[], 0, zero32, ⟨w.heap.size, 0, none⟩, 32, rfl, rfl, rfl, HZ0.out, Nat.le_refl _, at_start bs, Nat.le_refl _, by simpa using hm, HP0.out, HQ0.out, HB0.out⟩
  case round =>
    clear HZ0 HB0 HP0 HQ0
    obtain ⟨l, e, h, ad, dn, rfl, rfl, rfl, hD, hdn, hat, hfew, hlm, hPx, hQx, hbx⟩ := hrel
    have he : e ≤ n := by have := hat.1; rw [HL.out] at this; exact this
    have HD := hide hD
    have HBX := hide hbx
    have HAT := hide hat
    have hpw : (min p r) ≤ wr.heap.size := Nat.le_trans hq0 hbx.size
    have hsl := fun W => sl_from A n c e .i64 (e : Int) rfl he W
    have hr2 : Reads wr (min p r) 1 (from_ c e A) (n - e) (bv (bs.drop e)) := by
      have := reads_from (HR.out.below hbx) he hnc
      rwa [← bv_drop] at this
    generalize from_ c e A = AA at *
    obtain ⟨cc, hcc⟩ : ∃ cc, c - e = cc := ⟨_, rfl⟩
    obtain ⟨mm, hmm⟩ : ∃ mm, n - e = mm := ⟨_, rfl⟩
    rw [hcc, hmm] at hsl
    rw [hmm] at hr2
    have HMC : mm ≤ cc := by omega
    have HMN : mm ≤ n := by omega
    have HR2 := hide hr2
    have HPX := hide hPx
    have HQX := hide hQx
    clear hPx hQx
    clear hcc hmm hD hbx hat hr2
    cases hc : cutP (bs.drop e) with
    | none =>
      have XC := hide (cut_no hc AA mm cc (min p r) wr HR2.out hpw HMC (by omega))
      have HX := hide (readh_end (p := p) (r := r) (w := w) (head_at_end HAT.out hlm (next_nocut hc)))
      clear hc
      go_wp2_with fail
      refine XC.out.mono ?_
      rintro e1 w1 ⟨rfl, hb1⟩
      have HB1 := hide hb1
      clear hb1 XC
      have HBL := hide (HB1.out)
      have HDL := hide (rb HD.out HBL.out)
      have HPL := hide (HPX.out.below HBL.out HPX.out.lt)
      have HQL := hide (HQX.out.below HBL.out HQX.out.lt)
      have HBW := hide (Below.trans HBX.out (HBL.out.mono hpw))
      go_wp2_with fail
      refine (bclone_any ad 32 dn h _ HDL.out (by omega)).mono ?_
      rintro ed w9 ⟨v9, rfl, ho9, hb9⟩
      obtain ⟨A9, c9, rfl⟩ := own_slice ho9
      have H9 := hide (HX.out A9 c9 w9 (HPL.out.below hb9 HPL.out.lt) (HQL.out.below hb9 HQL.out.lt) (Below.trans HBW.out (hb9.mono (Nat.le_trans hq0 HBW.out.size))))
      clear ho9 hb9 HX HDL HPL HQL HBW HBL
      go_wp2_with fail
      refine bodyPost_ret (v := .tuple #[.slice A9 32 c9, .int .i64 (e : Int)]) (by simp only [results, Tryd.results31]; go_simp) rfl H9.out
    | some bo =>
      obtain ⟨body, own⟩ := bo
      have XC := hide (cut_yes hc AA mm cc (min p r) wr HR2.out hpw HMC (by omega))
      obtain ⟨q1, q2, q3, _, _, _⟩ := cut_some hc
      have hbl : body.length ≤ n := by rw [List.length_drop, HL.out] at q3; omega
      have hbl2 : e + (2 + body.length + 32) ≤ n := by rw [List.length_drop, HL.out] at q3; omega
      have HC := hide hc
      have HBE := hide hbl2
      obtain ⟨bl, hbl0⟩ : ∃ x, body.length = x := ⟨_, rfl⟩
      unfold CutYes at XC
      rw [hbl0] at hbl HBE XC
      have HBL0 := hide hbl0
      clear hc q1 q2 q3 hbl2 hbl0
      go_wp2_with fail
      refine XC.out.mono ?_
      rintro e1 w1 ⟨A1, A2, rfl, r1, r2, hne2, hb1⟩
      obtain ⟨ad2, rfl⟩ := Option.ne_none_iff_exists'.1 hne2
      have hp1 : (min p r) ≤ w1.heap.size := Nat.le_trans hpw hb1.size
      have HTW : Tabs w1 := HT.out.low hp2 (Below.trans HBX.out (hb1.mono hpw))
      have XH := hide (chain_any (some ad) A1 32 dn bl bl h body w1 (rb HD.out hb1) hdn (by omega) (r1.more hp1) (Nat.le_refl _) (by omega) HTW.1 HTW.2.1 HTW.2.2)
      have R1 := hide r1
      have R2 := hide r2
      have HB1 := hide hb1
      clear hb1 XC r1 r2 hne2 HTW
      go_wp2_with fail
      refine XH.out.mono ?_
      rintro e2 w2 ⟨A3, c3, rfl, ho3, hb2⟩
      have HB2 := hide (HB1.out.trans (hb2.mono HB1.out.size))
      have hp3 : (min p r) ≤ w2.heap.size := Nat.le_trans hp1 hb2.size
      have R1b := hide (R1.out.below (hb2.mono hp1))
      have R2b := hide (R2.out.below (hb2.mono hp1))
      have XE := hide (beq_any (some ad2) A3 32 32 32 c3 own (digP h body) w2 (min p r) w2.heap.size R2b.out (Reads.of_own ho3))
      clear ho3 hb2 XH R1 R2 HB1
      go_wp2_with fail
      refine XE.out.mono ?_
      rintro e3 w3 ⟨rfl, rfl⟩
      clear XE
      cases hdg : (own == digP h body) with
      | false =>
        have HX := hide (readh_end (p := p) (r := r) (w := w) (head_at_end HAT.out hlm (next_nodig HC.out (by simpa using hdg))))
        clear hdg
        have HBL := hide (HB2.out)
        have HDL := hide (rb HD.out HBL.out)
        have HPL := hide (HPX.out.below HBL.out HPX.out.lt)
        have HQL := hide (HQX.out.below HBL.out HQX.out.lt)
        have HBW := hide (Below.trans HBX.out (HBL.out.mono hpw))
        go_wp2_with fail
        refine (bclone_any ad 32 dn h _ HDL.out (by omega)).mono ?_
        rintro ed w9 ⟨v9, rfl, ho9, hb9⟩
        obtain ⟨A9, c9, rfl⟩ := own_slice ho9
        have H9 := hide (HX.out A9 c9 w9 (HPL.out.below hb9 HPL.out.lt) (HQL.out.below hb9 HQL.out.lt) (Below.trans HBW.out (hb9.mono (Nat.le_trans hq0 HBW.out.size))))
        clear ho9 hb9 HX HDL HPL HQL HBW HBL
        go_wp2_with fail
        refine bodyPost_ret (v := .tuple #[.slice A9 32 c9, .int .i64 (e : Int)]) (by simp only [results, Tryd.results31]; go_simp) rfl H9.out
      | true =>
        have HDG : Hid (own = digP h body) := hide (by simpa using hdg)
        clear hdg
        have HSW : Std w2 := HS.out.low (by omega) (Below.trans HBX.out (HB2.out.mono hpw))
        cases hdc : decP body with
        | none =>
          have XD := hide (dec_none hdc A1 bl bl w2 (R1b.out.more hp3) (Nat.le_refl _) (by omega) HSW)
          have HX := hide (readh_end (p := p) (r := r) (w := w) (head_at_end HAT.out hlm (next_nodec HC.out hdc)))
          unfold Rec.v zR at XD
          dsimp only at XD
          clear hdc HSW
          go_wp2_with fail
          refine XD.out.mono ?_
          rintro e4 w4 ⟨A4, n4, c4, rfl, h41, h42, h43, h44, h45⟩
          have HB4 := hide (HB2.out.trans (h44.mono HB2.out.size))
          clear h41 h42 h43 h44 h45 XD
          have HBL := hide ((HB4.out.alloc HB4.out.size (.cells #[.int .i64 0, .int .i64 0, .string ⟨#[]⟩, .string ⟨#[]⟩, .slice A4 n4 c4, .bool false] 24)))
          have HDL := hide (rb HD.out HBL.out)
          have HPL := hide (HPX.out.below HBL.out HPX.out.lt)
          have HQL := hide (HQX.out.below HBL.out HQX.out.lt)
          have HBW := hide (Below.trans HBX.out (HBL.out.mono hpw))
          go_wp2_with fail
          refine (bclone_any ad 32 dn h _ HDL.out (by omega)).mono ?_
          rintro ed w9 ⟨v9, rfl, ho9, hb9⟩
          obtain ⟨A9, c9, rfl⟩ := own_slice ho9
          have H9 := hide (HX.out A9 c9 w9 (HPL.out.below hb9 HPL.out.lt) (HQL.out.below hb9 HQL.out.lt) (Below.trans HBW.out (hb9.mono (Nat.le_trans hq0 HBW.out.size))))
          clear ho9 hb9 HX HDL HPL HQL HBW HBL
          go_wp2_with fail
          refine bodyPost_ret (v := .tuple #[.slice A9 32 c9, .int .i64 (e : Int)]) (by simp only [results, Tryd.results31]; go_simp) rfl H9.out
        | some rc =>
          obtain ⟨sq, op, pa, pb, dg, al⟩ := rc
          have XD := hide (dec_some hdc A1 bl bl w2 (R1b.out.more hp3) (Nat.le_refl _) (by omega) HSW)
          unfold Rec.v at XD
          dsimp only at XD
          clear HSW
          have HDC := hide hdc
          clear hdc
          go_wp2_with fail
          refine XD.out.mono ?_
          rintro e4 w4 ⟨A4, n4, c4, rfl, h41, h42, h43, h44, h45⟩
          have HB4 := hide (HB2.out.trans (h44.mono HB2.out.size))
          have R2c := hide (R2b.out.below (h44.mono hp3))
          clear h41 h42 h43 h44 h45 XD R2b R1b
          obtain ⟨WL, hWL⟩ : ∃ W, w4.alloc (.cells #[.int .i64 sq, .int .i64 op, .string ⟨pa.toArray⟩, .string ⟨pb.toArray⟩, .slice A4 n4 c4, .bool al] 24) = W := ⟨_, rfl⟩
          have hba : Below w4.heap.size w4 WL := by rw [← hWL]; exact bl_alloc _ _
          have HBW4 : Hid (Below wr.heap.size wr WL) := hide (HB4.out.trans (hba.mono HB4.out.size))
          have hz := Blk.new w4 24 #[.int .i64 sq, .int .i64 op, .string ⟨pa.toArray⟩, .string ⟨pb.toArray⟩, .slice A4 n4 c4, .bool al]
          rw [hWL] at hz
          obtain ⟨z0, z1, z2, z3, z4, z5⟩ := hz.six
          have hzl := hz.lt
          have HBA := hide hba
          clear hba hz
          by_cases hsq : sq = (l.length : Int)
          · have tsq : (sq != (l.length : Int)) = false := by rw [hsq]; simp
            have hnx := hide (next_yes HC.out HDG.out HDC.out (k := l.length) hsq)
            rw [HBL0.out] at hnx
            have hbe := HBE.out
            have HPL := hide (HPX.out.below HBW4.out HPX.out.lt)
            have HQL := hide (HQX.out.below HBW4.out HQX.out.lt)
            have XS := hide (head1_any ⟨⟨sq, op, pa, pb, dg, al⟩, A4, n4, c4⟩ p r l.length m WL HPL.out HQL.out hpr (by omega))
            unfold RV.v Rec.v at XS
            dsimp only at XS
            have v1 : IntKind.i64.wrap (2 + (bl : Int)) = 2 + (bl : Int) := by simp [IntKind.wrap, IntKind.bits, IntKind.signed]; omega
            have v2 : IntKind.i64.wrap (2 + (bl : Int) + 32) = 2 + (bl : Int) + 32 := by simp [IntKind.wrap, IntKind.bits, IntKind.signed]; omega
            have v3 : IntKind.i64.wrap ((e : Int) + (2 + (bl : Int) + 32)) = (e : Int) + (2 + (bl : Int) + 32) := by simp [IntKind.wrap, IntKind.bits, IntKind.signed]; omega
            have v4 : IntKind.i64.wrap ((l.length : Int) + 1) = (l.length : Int) + 1 := by simp [IntKind.wrap, IntKind.bits, IntKind.signed]; omega
            have HN : Hid (AtS bs (l ++ [⟨sq, op, pa, pb, dg, al⟩]) (e + (2 + bl + 32)) own) := hide (at_step HAT.out hnx.out)
            have HR5 := hide (R2c.out.below ((HBA.out).mono (by have := HB4.out.size; omega)))
            clear hnx HPX HQX HAT HD R2c HC HDG HDC hsq
            by_cases hmore : (l.length : Int) + 1 < m
            · rw [decide_eq_true hmore] at XS
              go_wp2_with fail
              refine XS.out.mono ?_
              rintro e5 w5 ⟨rfl, hP5, hQ5, hb5⟩
              have HBN := hide (Below.trans HBX.out ((HBW4.out.mono hpw).trans hb5))
              have HP5 := hide hP5
              have HQ5 := hide hQ5
              have HD5 := hide ((HR5.out.below hb5).more (Nat.le_trans hq0 HBN.out.size))
              clear hP5 hQ5 hb5 XS HPL HQL HBA HBW4 HB4 HB2 HBX z0 z1 z2 z3 z4 z5 hzl
              go_wp2_with fail
              clear v1 v2 v3 v4 tsq
              go_roundw
              case rel =>
                exact ⟨l ++ [⟨sq, op, pa, pb, dg, al⟩], e + (2 + bl + 32), own, ad2, 32, rfl, by go_num, by simp, HD5.out, Nat.le_refl _, HN.out, by simp; omega, by simp; omega, by simpa using HP5.out, HQ5.out, HBN.out⟩
              case measure => simp [intOf]; omega
            · rw [decide_eq_false hmore] at XS
              have HST := hide (readh_end (p := p) (r := r) (w := w) (head_at_stop HN.out (k := l.length + 1) (by simp) (show ((l.length + 1 : Nat) : Int) = m by omega)))
              go_wp2_with fail
              refine XS.out.mono ?_
              rintro e5 w5 ⟨rfl, hP5, hQ5, hb5⟩
              have HBN := hide (Below.trans HBX.out ((HBW4.out.mono hpw).trans hb5))
              have HP5 := hide hP5
              have HQ5 := hide hQ5
              have HD5 := hide ((HR5.out.below hb5).more (Nat.le_trans hq0 HBN.out.size))
              clear hP5 hQ5 hb5 XS HPL HQL HBA HBW4 HB4 HB2 HBX z0 z1 z2 z3 z4 z5 hzl
              go_wp2_with fail
              refine (bclone_any ad2 32 32 own _ HD5.out (by omega)).mono ?_
              rintro ed w9 ⟨v9, rfl, ho9, hb9⟩
              obtain ⟨A9, c9, rfl⟩ := own_slice ho9
              have H9 := hide (HST.out A9 c9 w9 (HP5.out.below hb9 HP5.out.lt) (HQ5.out.below hb9 HQ5.out.lt) (Below.trans HBN.out (hb9.mono (Nat.le_trans hq0 HBN.out.size))))
              rw [show ((e + (2 + bl + 32) : Nat) : Int) = (e : Int) + (2 + (bl : Int) + 32) by omega] at H9
              clear ho9 hb9 HST HD5 HBN HP5 HQ5
              go_wp2_with fail
              refine bodyPost_ret (v := .tuple #[.slice A9 32 c9, .int .i64 ((e : Int) + (2 + (bl : Int) + 32))]) (by simp only [results, Tryd.results31]; go_simp) rfl H9.out
          · have tsq : (sq != (l.length : Int)) = true := by rw [bne_iff_ne]; exact hsq
            have HX := hide (readh_end (p := p) (r := r) (w := w) (head_at_end HAT.out hlm (next_noseq HC.out HDC.out hsq)))
            clear z1 z2 z3 z4 z5 R2c HC HDG HDC hsq
            have HBL := hide (HBW4.out)
            have HDL := hide (rb HD.out HBL.out)
            have HPL := hide (HPX.out.below HBL.out HPX.out.lt)
            have HQL := hide (HQX.out.below HBL.out HQX.out.lt)
            have HBW := hide (Below.trans HBX.out (HBL.out.mono hpw))
            go_wp2_with fail
            refine (bclone_any ad 32 dn h _ HDL.out (by omega)).mono ?_
            rintro ed w9 ⟨v9, rfl, ho9, hb9⟩
            obtain ⟨A9, c9, rfl⟩ := own_slice ho9
            have H9 := hide (HX.out A9 c9 w9 (HPL.out.below hb9 HPL.out.lt) (HQL.out.below hb9 HQL.out.lt) (Below.trans HBW.out (hb9.mono (Nat.le_trans hq0 HBW.out.size))))
            clear ho9 hb9 HX HDL HPL HQL HBW HBL
            go_wp2_with fail
            refine bodyPost_ret (v := .tuple #[.slice A9 32 c9, .int .i64 (e : Int)]) (by simp only [results, Tryd.results31]; go_simp) rfl H9.out
end Go.Proofs.YtkiphaagdckkjaaDoor
