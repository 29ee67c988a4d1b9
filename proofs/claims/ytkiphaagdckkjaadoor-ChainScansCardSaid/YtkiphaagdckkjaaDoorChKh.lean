/- The document's Head; the law ChainScans. -/
import Derived.Test.YtkiphaagdckkjaaDoorChKs
namespace Go.Proofs.YtkiphaagdckkjaaDoor
open Go.RowKit
set_option linter.unusedVariables false
set_option maxRecDepth 100000 in
set_option maxHeartbeats 8000000 in
theorem rhead_any (A : Option Addr) (n c : Nat) (bs : LB) (m : Int) (w : World) (hR : Rd w A n bs) (hnc : n ≤ c) (hn : n ≤ 30000) :
    Calls Tryd.prog 17 #[.slice A n c, .int .i64 m] w fun e w' => e = .returned (.tuple #[.int .i64 (headP bs m).1, .bool (headP bs m).2]) ∧ Below w.heap.size w w' := by
  have X := hide (rscan_any A n c bs w hR hnc hn)
  have HR := hide hR
  have HL := hide hR.len
  clear hR
  have HST := hide (fun i (r : Rec) (h : (scanB bs).1[i]? = some r) => head_step bs h)
  have hhp : headP bs m = if m < 0 then (0, false) else if m ≤ ((scanB bs).1.length : Int) then ((lenP ((scanB bs).1.take m.toNat) : Int), true) else (0, false) := rfl
  obtain ⟨P, hP⟩ : ∃ P, headP bs m = P := ⟨_, rfl⟩
  rw [hP] at hhp ⊢
  unfold RScanEnd at X
  obtain ⟨L, hL⟩ : ∃ L, (scanB bs).1 = L := ⟨_, rfl⟩
  have hLs : L.length ≤ 30000 := by
    have h1 := scanB_few bs
    have h2 := scanB_end bs
    have h3 := HL.out
    rw [hL] at h1
    omega
  rw [hL] at hhp HST X
  have HP := hide hhp
  clear hP hL hhp
  go_enter Tryd.func17, Tryd.ntmps17
  go_wp2_with fail
  refine X.out.mono ?_
  rintro e w1 ⟨O, co, D, dn, l, rfl, g1, g2, g3, g4, g5⟩
  have hk : l.length = L.length := by rw [← g3, List.length_map]
  rw [hk]
  have HB1 := hide g5
  have HR1 := hide (rb HR.out g5)
  clear g1 g2 g3 g4 g5 X hk HR
  by_cases h0 : m < 0
  · have HQ : Hid (P = (0, false)) := hide (by rw [HP.out, if_pos h0])
    go_wp2_with fail
    refine bodyPost_ret (v := .tuple #[.int .i64 0, .bool false]) (by simp only [results, Tryd.results17]; go_simp) rfl ⟨by rw [HQ.out], HB1.out⟩
  by_cases h1 : (L.length : Int) < m
  · have HQ : Hid (P = (0, false)) := hide (by rw [HP.out, if_neg h0, if_neg (by omega)])
    go_wp2_with fail
    refine bodyPost_ret (v := .tuple #[.int .i64 0, .bool false]) (by simp only [results, Tryd.results17]; go_simp) rfl ⟨by rw [HQ.out], HB1.out⟩
  obtain ⟨q, rfl⟩ : ∃ q : Nat, m = (q : Int) := ⟨m.toNat, by omega⟩
  have HQ : Hid (P = ((lenP (L.take q) : Int), true)) := hide (by rw [HP.out, if_neg h0, if_pos (by omega), Int.toNat_natCast])
  have hqL : q ≤ L.length := by omega
  go_wp2_with fail
  go_loopw [9, 10] (fun u9 u10 wx => ∃ i a : Nat, i ≤ q ∧ u10 = .int .i64 (i : Int) ∧ u9 = .int .i64 (a : Int) ∧ Hid (lenP (L.take i) = a) ∧ Hid (Below w.heap.size w wx) ∧ Hid (Rd wx A n bs)) (fun _ i _ => q - (intOf i).toNat)
  case atStart => exact ⟨0, 0, Nat.zero_le _, rfl, rfl, hide rfl, HB1, HR1⟩
  case round =>
    clear HB1 HR1
    obtain ⟨i, a, hi, rfl, rfl, HA, HB, HR⟩ := hrel
    by_cases hlt : i < q
    · have hlt1 : (i : Int) < (q : Int) := by omega
      have hx : L[i]? = some (L[i]'(by omega)) := List.getElem?_eq_getElem _
      obtain ⟨s1, s2, s3, s4⟩ := HST.out i _ hx
      rw [HA.out] at s1 s2 s3
      obtain ⟨el, hel⟩ : ∃ x, (encP (L[i]'(by omega))).length = x := ⟨_, rfl⟩
      rw [hel] at s1 s2 s3 s4
      have hln := HL.out
      have ha2 : a + 1 < bs.length := by omega
      have hnum : 256 * (bs[a]'(by omega)).toNat + (bs[a + 1]'(by omega)).toNat = el := by
        have e : (bs.drop a).take 2 = [bs[a]'(by omega), bs[a + 1]'(by omega)] := by
          rw [List.drop_eq_getElem_cons (by omega), List.take_succ_cons, List.drop_eq_getElem_cons (by omega), List.take_succ_cons, List.take_zero]
        have e2 : numB ((bs.drop a).take 2) = el := by rw [s1]; exact be2_num _ (by omega)
        rw [e] at e2
        simp [numB] at e2
        omega
      obtain ⟨g, oo, rfl, hg, hcl⟩ := cells_of HR.out (by omega) (by rw [bv_length]; omega)
      have c0 := hcl a _ (bv_get bs a (by omega))
      have c1 := hcl (a + 1) _ (bv_get bs (a + 1) (by omega))
      have hx0 := (bs[a]'(by omega)).toNat_lt
      have hx1 := (bs[a + 1]'(by omega)).toNat_lt
      have i0 := fun W => u8_at g oo n c a (a : Int) rfl (by omega) W
      have i1 := fun W => u8_at g oo n c (a + 1) ((a : Int) + 1) (by omega) (by omega) W
      have HS3 := hide s3
      clear hcl s1 s3 hx
      generalize (bs[a]'(by omega)).toNat = x0 at *
      generalize (bs[a + 1]'(by omega)).toNat = x1 at *
      have HNUM := hide hnum
      have han : a ≤ n := by omega
      have w1 : IntKind.i64.wrap ((a : Int) + 2) = (a : Int) + 2 := by simp [IntKind.wrap, IntKind.bits, IntKind.signed]; omega
      have w2 : IntKind.i64.wrap (256 * (x0 : Int)) = 256 * (x0 : Int) := by simp [IntKind.wrap, IntKind.bits, IntKind.signed]; omega
      have w3 : IntKind.i64.wrap ((a : Int) + 2 + 256 * (x0 : Int)) = (a : Int) + 2 + 256 * (x0 : Int) := by simp [IntKind.wrap, IntKind.bits, IntKind.signed]; omega
      have w4 : IntKind.i64.wrap ((a : Int) + 1) = (a : Int) + 1 := by simp [IntKind.wrap, IntKind.bits, IntKind.signed]; omega
      have w5 : IntKind.i64.wrap ((a : Int) + 2 + 256 * (x0 : Int) + (x1 : Int)) = (a : Int) + 2 + 256 * (x0 : Int) + (x1 : Int) := by simp [IntKind.wrap, IntKind.bits, IntKind.signed]; omega
      have w6 : IntKind.i64.wrap ((a : Int) + 2 + 256 * (x0 : Int) + (x1 : Int) + 32) = (a : Int) + 2 + 256 * (x0 : Int) + (x1 : Int) + 32 := by simp [IntKind.wrap, IntKind.bits, IntKind.signed]; omega
      have w7 : IntKind.i64.wrap ((i : Int) + 1) = (i : Int) + 1 := by simp [IntKind.wrap, IntKind.bits, IntKind.signed]; omega
      clear hnum hln ha2 s2 s4 hel
      go_wp2_with fail
      go_quiet (fail)
      go_wp2_with fail
      clear w1 w2 w3 w4 w5 w6 w7 i0 i1 c0 c1
      go_roundw
      case rel => exact ⟨i + 1, a + (2 + el + 32), by omega, by go_num, by have := HNUM.out; congr 1; omega, HS3, hide (below_drewN HB.out _), hide (by exact HR.out)⟩
      case measure => simp [intOf]; omega
    · obtain rfl : i = q := by omega
      have hlt1 : ¬ (i : Int) < (i : Int) := by omega
      go_wp2_with fail
      refine bodyPost_ret (v := .tuple #[.int .i64 (a : Int), .bool true]) (by simp only [results, Tryd.results17]; go_simp) rfl ⟨by rw [HQ.out, HA.out], HB.out⟩
set_option maxRecDepth 100000 in
set_option maxHeartbeats 8000000 in
theorem scans_law (A : Option Addr) (n c : Nat) (m : Int) (bs : LB) (w : World) (hR : Rd w A n bs) (hnc : n ≤ c) (hS : Std w) (hT : Tabs w) :
    Calls Tryd.prog 4 #[.slice A n c, .int .i64 m] w fun e w' => e = .returned (.bool true) ∧ Below w.heap.size w w' := by
  have HR := hide hR
  have HS := hide hS
  have HT := hide hT
  by_cases h4 : (4000 : Int) < (n : Int)
  · have XH := hide (heads_any w hS hT)
    clear hR hS hT
    go_enter Tryd.func4, Tryd.ntmps4
    go_wp2_with fail
    refine XH.out.mono ?_
    rintro e1 w1 ⟨rfl, hb1⟩
    have HB1 := hide hb1
    clear hb1 XH
    go_wp2_with fail
    go_ret
    exact ⟨rfl, HB1.out⟩
  have hn4 : n ≤ 4000 := by omega
  have XS := hide (scan_any A n c bs w hR hnc (by omega) hS hT)
  have XRS := hide (fun W (hW : Below w.heap.size w W) => rscan_any A n c bs W (rb HR.out hW) hnc (by omega))
  have XH := hide (fun W (hW : Below w.heap.size w W) => head_any A n c bs m W (rb HR.out hW) hnc (by omega) (HS.out.below hW) (HT.out.below hW))
  have XRH := hide (fun W (hW : Below w.heap.size w W) => rhead_any A n c bs m W (rb HR.out hW) hnc (by omega))
  have XV := hide (fun W (hW : Below w.heap.size w W) => verify_any A n c bs W (rb HR.out hW) hnc (by omega) (HS.out.below hW) (HT.out.below hW))
  have XRV := hide (fun W (hW : Below w.heap.size w W) => rverify_any A n c bs W (rb HR.out hW) hnc (by omega))
  have XHD := hide (fun W (hW : Below w.heap.size w W) => heads_any W (HS.out.below hW) (HT.out.below hW))
  have hfw := scanB_few bs
  have hen := scanB_end bs
  have hln : bs.length = n := hR.len
  unfold ScanEnd at XS
  unfold RScanEnd at XRS
  obtain ⟨E, hE⟩ : ∃ E, (scanB bs).2.2 = E := ⟨_, rfl⟩
  obtain ⟨Dg, hDg⟩ : ∃ D, (scanB bs).2.1 = D := ⟨_, rfl⟩
  obtain ⟨P, hP⟩ : ∃ P, (scanB bs).1 = P := ⟨_, rfl⟩
  obtain ⟨V, hV⟩ : ∃ V, verP bs = V := ⟨_, rfl⟩
  obtain ⟨H1, hH1⟩ : ∃ V, (headP bs m).1 = V := ⟨_, rfl⟩
  obtain ⟨H2, hH2⟩ : ∃ V, (headP bs m).2 = V := ⟨_, rfl⟩
  rw [hE, hDg, hP] at XS XRS
  rw [hE, hP] at hfw
  rw [hE] at hen
  rw [hH1, hH2] at XH XRH
  rw [hV] at XV XRV
  have hk : P.length ≤ 1000 := by omega
  clear hE hDg hP hV hH1 hH2 hfw hen hln hR hS hT HR HS HT
  go_enter Tryd.func4, Tryd.ntmps4
  go_wp2_with fail
  refine XS.out.mono ?_
  rintro e1 w1 ⟨O, co, D, dn, l, rfl, g1, g2, g3, g4⟩
  have hl1 : l.length = P.length := by rw [← g2, List.length_map]
  rw [hl1] at g1 ⊢
  have HB1 := hide g4
  have HO1 := hide g1.row
  have HD1 := hide g3.rd
  have HM1 := hide g2
  have XRS1 := hide (XRS.out w1 g4)
  clear g1 g2 g3 g4 hl1 XS XRS
  go_wp2_with fail
  refine XRS1.out.mono ?_
  rintro e2 w2 ⟨O2, co2, D2, dn2, l2, rfl, g1, g2, g3, g4, g5⟩
  have hl1 : l2.length = P.length := by rw [← g3, List.length_map]
  rw [hl1] at g1 g2 ⊢
  have HB2 := hide (below_more HB1.out (Nat.le_refl _) g5)
  have HO2 := hide (HO1.out.below g5)
  have HD2 := hide (rb HD1.out g5)
  have HP2 := hide g1
  have HQ2 := hide g4
  have HM2 := hide g3
  have XH2 := hide (XH.out w2 HB2.out)
  clear g1 g2 g3 g4 g5 hl1 XRS1 XH HO1 HD1
  go_wp2_with fail
  refine XH2.out.mono ?_
  rintro e3 w3 ⟨rfl, g5⟩
  have HB3 := hide (below_more HB2.out (Nat.le_refl _) g5)
  have XRH3 := hide (XRH.out w3 HB3.out)
  have HK3 := hide g5
  clear g5 XH2 XRH
  go_wp2_with fail
  refine XRH3.out.mono ?_
  rintro e4 w4 ⟨rfl, g5⟩
  have HB4 := hide (below_more HB3.out (Nat.le_refl _) g5)
  have hbk := below_more HK3.out (Nat.le_refl _) g5
  have XR := hide (rows_same O O2 P.length co co2 l l2 w4 (HO2.out.below hbk) (HP2.out.below hbk) (by rw [HM1.out, HM2.out]) (by omega))
  have HD4 := hide (rb HD2.out hbk)
  have HQ4 := hide (rb HQ2.out hbk)
  have hee : (E == E) = true := beq_self_eq_true E
  have hh1 : (H1 == H1) = true := beq_self_eq_true H1
  have hh2 : (H2 == H2) = true := beq_self_eq_true H2
  have hvv : (V == V) = true := beq_self_eq_true V
  clear g5 hbk XRH3 HO2 HP2 HD2 HQ2 HM1 HM2 HK3
  go_wp2_with fail
  refine XR.out.mono ?_
  rintro e5 w5 ⟨rfl, g5⟩
  have HB5 := hide (below_more HB4.out (Nat.le_refl _) g5)
  have XQ := hide (same_any D D2 32 32 dn dn2 Dg Dg w5 _ _ (rb HD4.out g5) (rb HQ4.out g5))
  rw [show (Dg == Dg) = true from beq_self_eq_true Dg] at XQ
  have XV5 := hide (XV.out w5 HB5.out)
  clear g5 XR HD4 HQ4
  go_wp2_with fail
  refine XQ.out.mono ?_
  rintro e6 w6 ⟨rfl, rfl⟩
  clear XQ
  go_wp2_with fail
  refine XV5.out.mono ?_
  rintro e7 w7 ⟨rfl, g5⟩
  have HB7 := hide (below_more HB5.out (Nat.le_refl _) g5)
  have XRV7 := hide (XRV.out w7 HB7.out)
  clear g5 XV XV5 XRV
  go_wp2_with fail
  refine XRV7.out.mono ?_
  rintro e8 w8 ⟨rfl, g5⟩
  have HB8 := hide (below_more HB7.out (Nat.le_refl _) g5)
  have XH8 := hide (XHD.out w8 HB8.out)
  clear g5 XRV7 XHD
  go_wp2_with fail
  refine XH8.out.mono ?_
  rintro e9 w9 ⟨rfl, g5⟩
  have HB9 := hide (below_more HB8.out (Nat.le_refl _) g5)
  clear g5 XH8
  go_wp2_with fail
  go_ret
  exact ⟨rfl, HB9.out⟩
end Go.Proofs.YtkiphaagdckkjaaDoor
