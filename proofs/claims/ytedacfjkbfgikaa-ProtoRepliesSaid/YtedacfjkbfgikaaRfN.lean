/- The document's fits of a reply. -/
import Derived.Test.YtedacfjkbfgikaaRfA
import Derived.Test.YtedacfjkbfgikaaRfB
namespace Go.Proofs.Ytedacfjkbfgikaa
open Go.RowKit
set_option linter.unusedVariables false
def badV (l : LB) (h h2 n : Int) (dn an : Nat) : Bool := (!hasC 72 l && (h != 0)) || (!hasC 73 l && (h2 != 0)) || (!hasC 78 l && (n != 0)) || (!hasC 68 l && decide (0 < dn)) || (!hasC 83 l && decide (0 < an))
set_option maxRecDepth 100000 in
set_option maxHeartbeats 40000000 in
theorem rfit_err (op err h h2 n : Int) (names : List LB) (D A : Option Addr) (dn dc an ac : Nat) (w : World) (h1 : 1 ≤ op) (h2p : op ≤ 16) (hz : (err == 0) = false) (b : Bool) (hA : Reads w w.heap.size 1 A an (svs names)) (hn : an ≤ 100000)
    (hb0 : b = (!badV ([] : LB) h h2 n dn an && (decide (0 ≤ err) && decide (err ≤ 255) && wideP h && wideP h2 && wideP n && decide (dn ≤ 2048) && txsP 32 names 255))) :
    Calls Try.prog 80 #[.int .i64 op, .agg #[.int .i64 err, .int .i64 h, .int .i64 h2, .int .i64 n, .slice D dn dc, .slice A an ac]] w fun e w' => e = .returned (.bool b) ∧ Below w.heap.size w w' := by
  have HV := hide hb0
  have HRA := hide hA
  clear hA hb0
  have hb := (Below.refl w.heap.size w).alloc (Nat.le_refl _) (.cells #[.int .i64 err, .int .i64 h, .int .i64 h2, .int .i64 n, .slice D dn dc, .slice A an ac] 43)
  have hk := Blk.new w 43 #[.int .i64 err, .int .i64 h, .int .i64 h2, .int .i64 n, .slice D dn dc, .slice A an ac]
  have HB := hide hb
  have HK := hide hk
  have hl := hk.lt
  have XR := hide (fun W => replies_any op W h1 h2p)
  clear hb
  have hz2 : (err != 0) = true := by rw [bne, hz]; rfl
  obtain ⟨x0, x1, x2, x3, x4, x5⟩ := blk6 hk
  clear hk
  go_enter Try.func80, Try.ntmps80
  go_wp2_with fail
  refine (XR.out _).mono ?_
  rintro e w1 ⟨rfl, hb1⟩
  have HB1 := hide (below_more HB.out (Nat.le_refl _) hb1)
  have HK1 := hide (HK.out.below hb1 hl)
  clear hb1 x0 x1 x2 x3 x4 x5 HB HK XR hl
  have hl := HK1.out.lt
  obtain ⟨x0, x1, x2, x3, x4, x5⟩ := blk6 HK1.out
  have X72 : Hid (Calls Try.prog 70 #[.string ⟨#[]⟩, .int .u8 72] w1 fun e w' => e = .returned (.bool false) ∧ w1 = w') := hide (has_any [] 72 w1 (by decide))
  have X73 : Hid (Calls Try.prog 70 #[.string ⟨#[]⟩, .int .u8 73] w1 fun e w' => e = .returned (.bool false) ∧ w1 = w') := hide (has_any [] 73 w1 (by decide))
  have X78 : Hid (Calls Try.prog 70 #[.string ⟨#[]⟩, .int .u8 78] w1 fun e w' => e = .returned (.bool false) ∧ w1 = w') := hide (has_any [] 78 w1 (by decide))
  have X68 : Hid (Calls Try.prog 70 #[.string ⟨#[]⟩, .int .u8 68] w1 fun e w' => e = .returned (.bool false) ∧ w1 = w') := hide (has_any [] 68 w1 (by decide))
  have X83 : Hid (Calls Try.prog 70 #[.string ⟨#[]⟩, .int .u8 83] w1 fun e w' => e = .returned (.bool false) ∧ w1 = w') := hide (has_any [] 83 w1 (by decide))
  have HBAD : Hid (badV [] h h2 n dn an = ((true && (h != 0)) || (true && (h2 != 0)) || (true && (n != 0)) || (true && decide (0 < dn)) || (true && decide (0 < an)))) := hide rfl
  go_upto_region 4 with (fail)
  go_cut [60, 61, 62, 63, 64, 65, 66, 67, 68, 69, 70, 71, 72, 73, 74, 75, 76, 77, 78, 79, 80, 81, 82, 83, 84, 85, 86, 87, 88, 89, 90, 91, 92, 93, 94] (fun u60 u61 u62 u63 u64 u65 u66 u67 u68 u69 u70 u71 u72 u73 u74 u75 u76 u77 u78 u79 u80 u81 u82 u83 u84 u85 u86 u87 u88 u89 u90 u91 u92 u93 u94 wx => u60 = .bool (badV [] h h2 n dn an) ∧ wx = w1 ∧ u61 = undef ∧ u62 = undef ∧ u63 = undef ∧ u64 = undef ∧ u65 = undef ∧ u66 = undef ∧ u67 = undef ∧ u68 = undef ∧ u69 = undef ∧ u70 = undef ∧ u71 = undef ∧ u72 = undef ∧ u73 = undef ∧ u74 = undef ∧ u75 = undef ∧ u76 = undef ∧ u77 = undef ∧ u78 = undef ∧ u79 = undef ∧ u80 = undef ∧ u81 = undef ∧ u82 = undef ∧ u83 = undef ∧ u84 = undef ∧ u85 = undef ∧ u86 = undef ∧ u87 = undef ∧ u88 = undef ∧ u89 = undef ∧ u90 = undef ∧ u91 = undef ∧ u92 = undef ∧ u93 = undef ∧ u94 = undef)
  case first =>
    go_wp2_with fail
    with_reducible refine X72.out.mono ?_
    rintro e9 w9 ⟨rfl, rfl⟩
    cases hq0 : (h != 0) with
    | true =>
      go_wp2_with fail
      go_meet
      exact ⟨by rw [HBAD.out, hq0]; rfl, rfl, rfl, rfl, rfl, rfl, rfl, rfl, rfl, rfl, rfl, rfl, rfl, rfl, rfl, rfl, rfl, rfl, rfl, rfl, rfl, rfl, rfl, rfl, rfl, rfl, rfl, rfl, rfl, rfl, rfl, rfl, rfl, rfl, rfl, rfl⟩
    | false =>
      go_wp2_with fail
      with_reducible refine X73.out.mono ?_
      rintro e9 w9 ⟨rfl, rfl⟩
      cases hq1 : (h2 != 0) with
      | true =>
        go_wp2_with fail
        go_meet
        exact ⟨by rw [HBAD.out, hq0, hq1]; rfl, rfl, rfl, rfl, rfl, rfl, rfl, rfl, rfl, rfl, rfl, rfl, rfl, rfl, rfl, rfl, rfl, rfl, rfl, rfl, rfl, rfl, rfl, rfl, rfl, rfl, rfl, rfl, rfl, rfl, rfl, rfl, rfl, rfl, rfl, rfl⟩
      | false =>
        go_wp2_with fail
        with_reducible refine X78.out.mono ?_
        rintro e9 w9 ⟨rfl, rfl⟩
        cases hq2 : (n != 0) with
        | true =>
          go_wp2_with fail
          go_meet
          exact ⟨by rw [HBAD.out, hq0, hq1, hq2]; rfl, rfl, rfl, rfl, rfl, rfl, rfl, rfl, rfl, rfl, rfl, rfl, rfl, rfl, rfl, rfl, rfl, rfl, rfl, rfl, rfl, rfl, rfl, rfl, rfl, rfl, rfl, rfl, rfl, rfl, rfl, rfl, rfl, rfl, rfl, rfl⟩
        | false =>
          go_wp2_with fail
          with_reducible refine X68.out.mono ?_
          rintro e9 w9 ⟨rfl, rfl⟩
          by_cases hq3 : (0 : Int) < (dn : Int)
          · have hr3 : decide (0 < dn) = true := by simp; omega
            go_wp2_with fail
            go_meet
            exact ⟨by rw [HBAD.out, hq0, hq1, hq2, hr3]; rfl, rfl, rfl, rfl, rfl, rfl, rfl, rfl, rfl, rfl, rfl, rfl, rfl, rfl, rfl, rfl, rfl, rfl, rfl, rfl, rfl, rfl, rfl, rfl, rfl, rfl, rfl, rfl, rfl, rfl, rfl, rfl, rfl, rfl, rfl, rfl⟩
          · have hr3 : decide (0 < dn) = false := by simp; omega
            go_wp2_with fail
            with_reducible refine X83.out.mono ?_
            rintro e9 w9 ⟨rfl, rfl⟩
            by_cases hq4 : (0 : Int) < (an : Int)
            · have hr4 : decide (0 < an) = true := by simp; omega
              go_wp2_with fail
              go_meet
              exact ⟨by rw [HBAD.out, hq0, hq1, hq2, hr3, hr4]; rfl, rfl, rfl, rfl, rfl, rfl, rfl, rfl, rfl, rfl, rfl, rfl, rfl, rfl, rfl, rfl, rfl, rfl, rfl, rfl, rfl, rfl, rfl, rfl, rfl, rfl, rfl, rfl, rfl, rfl, rfl, rfl, rfl, rfl, rfl, rfl⟩
            · have hr4 : decide (0 < an) = false := by simp; omega
              go_wp2_with fail
              go_meet
              exact ⟨by rw [HBAD.out, hq0, hq1, hq2, hr3, hr4]; rfl, rfl, rfl, rfl, rfl, rfl, rfl, rfl, rfl, rfl, rfl, rfl, rfl, rfl, rfl, rfl, rfl, rfl, rfl, rfl, rfl, rfl, rfl, rfl, rfl, rfl, rfl, rfl, rfl, rfl, rfl, rfl, rfl, rfl, rfl, rfl⟩
  case rest =>
    obtain ⟨rfl, rfl, rfl, rfl, rfl, rfl, rfl, rfl, rfl, rfl, rfl, rfl, rfl, rfl, rfl, rfl, rfl, rfl, rfl, rfl, rfl, rfl, rfl, rfl, rfl, rfl, rfl, rfl, rfl, rfl, rfl, rfl, rfl, rfl, rfl, rfl⟩ := hcut
    have HRA1 := hide ((HRA.out.below HB1.out).more HB1.out.size)
    clear HRA HBAD X72 X73 X78 X68 X83
    generalize badV [] h h2 n dn an = U at *
    cases U with
    | true =>
      go_wp2_with fail
      go_ret
      exact ⟨by rw [HV.out]; rfl, HB1.out⟩
    | false =>
      have XH := hide (rwide_any h wc)
      have XI := hide (rwide_any h2 wc)
      have XN := hide (rwide_any n wc)
      have XS := hide (rshort_any names A an ac wc HRA1.out hn)
      by_cases z1 : 0 ≤ err
      · have z1n : decide (0 ≤ err) = true := decide_eq_true z1
        by_cases z2 : err ≤ 255
        · have z2n : decide (err ≤ 255) = true := decide_eq_true z2
          cases v1 : wideP h with
          | false =>
            rw [v1] at XH
            go_wp2_with fail
            refine XH.out.mono ?_
            rintro e9 w9 ⟨rfl, rfl⟩
            go_wp2_with fail
            go_ret
            exact ⟨by rw [HV.out, z1n, z2n, v1]; rfl, HB1.out⟩
          | true =>
            rw [v1] at XH
            cases v2 : wideP h2 with
            | false =>
              rw [v2] at XI
              go_wp2_with fail
              refine XH.out.mono ?_
              rintro e9 w9 ⟨rfl, rfl⟩
              go_wp2_with fail
              refine XI.out.mono ?_
              rintro e9 w9 ⟨rfl, rfl⟩
              go_wp2_with fail
              go_ret
              exact ⟨by rw [HV.out, z1n, z2n, v1, v2]; rfl, HB1.out⟩
            | true =>
              rw [v2] at XI
              cases v3 : wideP n with
              | false =>
                rw [v3] at XN
                go_wp2_with fail
                refine XH.out.mono ?_
                rintro e9 w9 ⟨rfl, rfl⟩
                go_wp2_with fail
                refine XI.out.mono ?_
                rintro e9 w9 ⟨rfl, rfl⟩
                go_wp2_with fail
                refine XN.out.mono ?_
                rintro e9 w9 ⟨rfl, rfl⟩
                go_wp2_with fail
                go_ret
                exact ⟨by rw [HV.out, z1n, z2n, v1, v2, v3]; rfl, HB1.out⟩
              | true =>
                rw [v3] at XN
                by_cases z3 : (dn : Int) ≤ 2048
                · have z3n : decide (dn ≤ 2048) = true := by simp; omega
                  cases v4 : txsP 32 names 255 with
                  | false =>
                    rw [v4] at XS
                    go_wp2_with fail
                    refine XH.out.mono ?_
                    rintro e9 w9 ⟨rfl, rfl⟩
                    go_wp2_with fail
                    refine XI.out.mono ?_
                    rintro e9 w9 ⟨rfl, rfl⟩
                    go_wp2_with fail
                    refine XN.out.mono ?_
                    rintro e9 w9 ⟨rfl, rfl⟩
                    go_wp2_with fail
                    refine XS.out.mono ?_
                    rintro e9 w9 ⟨rfl, rfl⟩
                    go_wp2_with fail
                    go_ret
                    exact ⟨by rw [HV.out, z1n, z2n, v1, v2, v3, z3n, v4]; rfl, HB1.out⟩
                  | true =>
                    rw [v4] at XS
                    go_wp2_with fail
                    refine XH.out.mono ?_
                    rintro e9 w9 ⟨rfl, rfl⟩
                    go_wp2_with fail
                    refine XI.out.mono ?_
                    rintro e9 w9 ⟨rfl, rfl⟩
                    go_wp2_with fail
                    refine XN.out.mono ?_
                    rintro e9 w9 ⟨rfl, rfl⟩
                    go_wp2_with fail
                    refine XS.out.mono ?_
                    rintro e9 w9 ⟨rfl, rfl⟩
                    go_wp2_with fail
                    go_ret
                    exact ⟨by rw [HV.out, z1n, z2n, v1, v2, v3, z3n, v4]; rfl, HB1.out⟩
                · have z3n : decide (dn ≤ 2048) = false := by simp; omega
                  go_wp2_with fail
                  refine XH.out.mono ?_
                  rintro e9 w9 ⟨rfl, rfl⟩
                  go_wp2_with fail
                  refine XI.out.mono ?_
                  rintro e9 w9 ⟨rfl, rfl⟩
                  go_wp2_with fail
                  refine XN.out.mono ?_
                  rintro e9 w9 ⟨rfl, rfl⟩
                  go_wp2_with fail
                  go_ret
                  exact ⟨by rw [HV.out, z1n, z2n, v1, v2, v3, z3n]; rfl, HB1.out⟩
        · have z2n : decide (err ≤ 255) = false := decide_eq_false z2
          go_wp2_with fail
          go_ret
          exact ⟨by rw [HV.out, z1n, z2n]; rfl, HB1.out⟩
      · have z1n : decide (0 ≤ err) = false := decide_eq_false z1
        go_wp2_with fail
        go_ret
        exact ⟨by rw [HV.out, z1n]; rfl, HB1.out⟩
set_option maxRecDepth 100000 in
set_option maxHeartbeats 40000000 in
theorem rfit_s (op err h h2 n : Int) (names : List LB) (D A : Option Addr) (dn dc an ac : Nat) (w : World) (h1 : 1 ≤ op) (h2p : op ≤ 16) (hz : (err == 0) = true) (hlf : repliesP op = []) (b : Bool) (hA : Reads w w.heap.size 1 A an (svs names)) (hn : an ≤ 100000)
    (hb0 : b = (!badV ([] : LB) h h2 n dn an && (decide (0 ≤ err) && decide (err ≤ 255) && wideP h && wideP h2 && wideP n && decide (dn ≤ 2048) && txsP 32 names 255))) :
    Calls Try.prog 80 #[.int .i64 op, .agg #[.int .i64 err, .int .i64 h, .int .i64 h2, .int .i64 n, .slice D dn dc, .slice A an ac]] w fun e w' => e = .returned (.bool b) ∧ Below w.heap.size w w' := by
  have HV := hide hb0
  have HRA := hide hA
  clear hA hb0
  have hb := (Below.refl w.heap.size w).alloc (Nat.le_refl _) (.cells #[.int .i64 err, .int .i64 h, .int .i64 h2, .int .i64 n, .slice D dn dc, .slice A an ac] 43)
  have hk := Blk.new w 43 #[.int .i64 err, .int .i64 h, .int .i64 h2, .int .i64 n, .slice D dn dc, .slice A an ac]
  have HB := hide hb
  have HK := hide hk
  have hl := hk.lt
  have XR := hide (fun W => replies_any op W h1 h2p)
  simp only [hlf] at XR
  clear hb
  have hz2 : (err != 0) = false := by rw [bne, hz]; rfl
  obtain ⟨x0, x1, x2, x3, x4, x5⟩ := blk6 hk
  clear hk
  go_enter Try.func80, Try.ntmps80
  go_wp2_with fail
  refine (XR.out _).mono ?_
  rintro e w1 ⟨rfl, hb1⟩
  have HB1 := hide (below_more HB.out (Nat.le_refl _) hb1)
  have HK1 := hide (HK.out.below hb1 hl)
  clear hb1 x0 x1 x2 x3 x4 x5 HB HK XR hl
  have hl := HK1.out.lt
  obtain ⟨x0, x1, x2, x3, x4, x5⟩ := blk6 HK1.out
  have X72 : Hid (Calls Try.prog 70 #[.string ⟨#[]⟩, .int .u8 72] w1 fun e w' => e = .returned (.bool false) ∧ w1 = w') := hide (has_any [] 72 w1 (by decide))
  have X73 : Hid (Calls Try.prog 70 #[.string ⟨#[]⟩, .int .u8 73] w1 fun e w' => e = .returned (.bool false) ∧ w1 = w') := hide (has_any [] 73 w1 (by decide))
  have X78 : Hid (Calls Try.prog 70 #[.string ⟨#[]⟩, .int .u8 78] w1 fun e w' => e = .returned (.bool false) ∧ w1 = w') := hide (has_any [] 78 w1 (by decide))
  have X68 : Hid (Calls Try.prog 70 #[.string ⟨#[]⟩, .int .u8 68] w1 fun e w' => e = .returned (.bool false) ∧ w1 = w') := hide (has_any [] 68 w1 (by decide))
  have X83 : Hid (Calls Try.prog 70 #[.string ⟨#[]⟩, .int .u8 83] w1 fun e w' => e = .returned (.bool false) ∧ w1 = w') := hide (has_any [] 83 w1 (by decide))
  have HBAD : Hid (badV [] h h2 n dn an = ((true && (h != 0)) || (true && (h2 != 0)) || (true && (n != 0)) || (true && decide (0 < dn)) || (true && decide (0 < an)))) := hide rfl
  go_upto_region 4 with (fail)
  go_cut [60, 61, 62, 63, 64, 65, 66, 67, 68, 69, 70, 71, 72, 73, 74, 75, 76, 77, 78, 79, 80, 81, 82, 83, 84, 85, 86, 87, 88, 89, 90, 91, 92, 93, 94] (fun u60 u61 u62 u63 u64 u65 u66 u67 u68 u69 u70 u71 u72 u73 u74 u75 u76 u77 u78 u79 u80 u81 u82 u83 u84 u85 u86 u87 u88 u89 u90 u91 u92 u93 u94 wx => u60 = .bool (badV [] h h2 n dn an) ∧ wx = w1 ∧ u61 = undef ∧ u62 = undef ∧ u63 = undef ∧ u64 = undef ∧ u65 = undef ∧ u66 = undef ∧ u67 = undef ∧ u68 = undef ∧ u69 = undef ∧ u70 = undef ∧ u71 = undef ∧ u72 = undef ∧ u73 = undef ∧ u74 = undef ∧ u75 = undef ∧ u76 = undef ∧ u77 = undef ∧ u78 = undef ∧ u79 = undef ∧ u80 = undef ∧ u81 = undef ∧ u82 = undef ∧ u83 = undef ∧ u84 = undef ∧ u85 = undef ∧ u86 = undef ∧ u87 = undef ∧ u88 = undef ∧ u89 = undef ∧ u90 = undef ∧ u91 = undef ∧ u92 = undef ∧ u93 = undef ∧ u94 = undef)
  case first =>
    go_wp2_with fail
    with_reducible refine X72.out.mono ?_
    rintro e9 w9 ⟨rfl, rfl⟩
    cases hq0 : (h != 0) with
    | true =>
      go_wp2_with fail
      go_meet
      exact ⟨by rw [HBAD.out, hq0]; rfl, rfl, rfl, rfl, rfl, rfl, rfl, rfl, rfl, rfl, rfl, rfl, rfl, rfl, rfl, rfl, rfl, rfl, rfl, rfl, rfl, rfl, rfl, rfl, rfl, rfl, rfl, rfl, rfl, rfl, rfl, rfl, rfl, rfl, rfl, rfl⟩
    | false =>
      go_wp2_with fail
      with_reducible refine X73.out.mono ?_
      rintro e9 w9 ⟨rfl, rfl⟩
      cases hq1 : (h2 != 0) with
      | true =>
        go_wp2_with fail
        go_meet
        exact ⟨by rw [HBAD.out, hq0, hq1]; rfl, rfl, rfl, rfl, rfl, rfl, rfl, rfl, rfl, rfl, rfl, rfl, rfl, rfl, rfl, rfl, rfl, rfl, rfl, rfl, rfl, rfl, rfl, rfl, rfl, rfl, rfl, rfl, rfl, rfl, rfl, rfl, rfl, rfl, rfl, rfl⟩
      | false =>
        go_wp2_with fail
        with_reducible refine X78.out.mono ?_
        rintro e9 w9 ⟨rfl, rfl⟩
        cases hq2 : (n != 0) with
        | true =>
          go_wp2_with fail
          go_meet
          exact ⟨by rw [HBAD.out, hq0, hq1, hq2]; rfl, rfl, rfl, rfl, rfl, rfl, rfl, rfl, rfl, rfl, rfl, rfl, rfl, rfl, rfl, rfl, rfl, rfl, rfl, rfl, rfl, rfl, rfl, rfl, rfl, rfl, rfl, rfl, rfl, rfl, rfl, rfl, rfl, rfl, rfl, rfl⟩
        | false =>
          go_wp2_with fail
          with_reducible refine X68.out.mono ?_
          rintro e9 w9 ⟨rfl, rfl⟩
          by_cases hq3 : (0 : Int) < (dn : Int)
          · have hr3 : decide (0 < dn) = true := by simp; omega
            go_wp2_with fail
            go_meet
            exact ⟨by rw [HBAD.out, hq0, hq1, hq2, hr3]; rfl, rfl, rfl, rfl, rfl, rfl, rfl, rfl, rfl, rfl, rfl, rfl, rfl, rfl, rfl, rfl, rfl, rfl, rfl, rfl, rfl, rfl, rfl, rfl, rfl, rfl, rfl, rfl, rfl, rfl, rfl, rfl, rfl, rfl, rfl, rfl⟩
          · have hr3 : decide (0 < dn) = false := by simp; omega
            go_wp2_with fail
            with_reducible refine X83.out.mono ?_
            rintro e9 w9 ⟨rfl, rfl⟩
            by_cases hq4 : (0 : Int) < (an : Int)
            · have hr4 : decide (0 < an) = true := by simp; omega
              go_wp2_with fail
              go_meet
              exact ⟨by rw [HBAD.out, hq0, hq1, hq2, hr3, hr4]; rfl, rfl, rfl, rfl, rfl, rfl, rfl, rfl, rfl, rfl, rfl, rfl, rfl, rfl, rfl, rfl, rfl, rfl, rfl, rfl, rfl, rfl, rfl, rfl, rfl, rfl, rfl, rfl, rfl, rfl, rfl, rfl, rfl, rfl, rfl, rfl⟩
            · have hr4 : decide (0 < an) = false := by simp; omega
              go_wp2_with fail
              go_meet
              exact ⟨by rw [HBAD.out, hq0, hq1, hq2, hr3, hr4]; rfl, rfl, rfl, rfl, rfl, rfl, rfl, rfl, rfl, rfl, rfl, rfl, rfl, rfl, rfl, rfl, rfl, rfl, rfl, rfl, rfl, rfl, rfl, rfl, rfl, rfl, rfl, rfl, rfl, rfl, rfl, rfl, rfl, rfl, rfl, rfl⟩
  case rest =>
    obtain ⟨rfl, rfl, rfl, rfl, rfl, rfl, rfl, rfl, rfl, rfl, rfl, rfl, rfl, rfl, rfl, rfl, rfl, rfl, rfl, rfl, rfl, rfl, rfl, rfl, rfl, rfl, rfl, rfl, rfl, rfl, rfl, rfl, rfl, rfl, rfl, rfl⟩ := hcut
    have HRA1 := hide ((HRA.out.below HB1.out).more HB1.out.size)
    clear HRA HBAD X72 X73 X78 X68 X83
    generalize badV [] h h2 n dn an = U at *
    cases U with
    | true =>
      go_wp2_with fail
      go_ret
      exact ⟨by rw [HV.out]; rfl, HB1.out⟩
    | false =>
      have XH := hide (rwide_any h wc)
      have XI := hide (rwide_any h2 wc)
      have XN := hide (rwide_any n wc)
      have XS := hide (rshort_any names A an ac wc HRA1.out hn)
      by_cases z1 : 0 ≤ err
      · have z1n : decide (0 ≤ err) = true := decide_eq_true z1
        by_cases z2 : err ≤ 255
        · have z2n : decide (err ≤ 255) = true := decide_eq_true z2
          cases v1 : wideP h with
          | false =>
            rw [v1] at XH
            go_wp2_with fail
            refine XH.out.mono ?_
            rintro e9 w9 ⟨rfl, rfl⟩
            go_wp2_with fail
            go_ret
            exact ⟨by rw [HV.out, z1n, z2n, v1]; rfl, HB1.out⟩
          | true =>
            rw [v1] at XH
            cases v2 : wideP h2 with
            | false =>
              rw [v2] at XI
              go_wp2_with fail
              refine XH.out.mono ?_
              rintro e9 w9 ⟨rfl, rfl⟩
              go_wp2_with fail
              refine XI.out.mono ?_
              rintro e9 w9 ⟨rfl, rfl⟩
              go_wp2_with fail
              go_ret
              exact ⟨by rw [HV.out, z1n, z2n, v1, v2]; rfl, HB1.out⟩
            | true =>
              rw [v2] at XI
              cases v3 : wideP n with
              | false =>
                rw [v3] at XN
                go_wp2_with fail
                refine XH.out.mono ?_
                rintro e9 w9 ⟨rfl, rfl⟩
                go_wp2_with fail
                refine XI.out.mono ?_
                rintro e9 w9 ⟨rfl, rfl⟩
                go_wp2_with fail
                refine XN.out.mono ?_
                rintro e9 w9 ⟨rfl, rfl⟩
                go_wp2_with fail
                go_ret
                exact ⟨by rw [HV.out, z1n, z2n, v1, v2, v3]; rfl, HB1.out⟩
              | true =>
                rw [v3] at XN
                by_cases z3 : (dn : Int) ≤ 2048
                · have z3n : decide (dn ≤ 2048) = true := by simp; omega
                  cases v4 : txsP 32 names 255 with
                  | false =>
                    rw [v4] at XS
                    go_wp2_with fail
                    refine XH.out.mono ?_
                    rintro e9 w9 ⟨rfl, rfl⟩
                    go_wp2_with fail
                    refine XI.out.mono ?_
                    rintro e9 w9 ⟨rfl, rfl⟩
                    go_wp2_with fail
                    refine XN.out.mono ?_
                    rintro e9 w9 ⟨rfl, rfl⟩
                    go_wp2_with fail
                    refine XS.out.mono ?_
                    rintro e9 w9 ⟨rfl, rfl⟩
                    go_wp2_with fail
                    go_ret
                    exact ⟨by rw [HV.out, z1n, z2n, v1, v2, v3, z3n, v4]; rfl, HB1.out⟩
                  | true =>
                    rw [v4] at XS
                    go_wp2_with fail
                    refine XH.out.mono ?_
                    rintro e9 w9 ⟨rfl, rfl⟩
                    go_wp2_with fail
                    refine XI.out.mono ?_
                    rintro e9 w9 ⟨rfl, rfl⟩
                    go_wp2_with fail
                    refine XN.out.mono ?_
                    rintro e9 w9 ⟨rfl, rfl⟩
                    go_wp2_with fail
                    refine XS.out.mono ?_
                    rintro e9 w9 ⟨rfl, rfl⟩
                    go_wp2_with fail
                    go_ret
                    exact ⟨by rw [HV.out, z1n, z2n, v1, v2, v3, z3n, v4]; rfl, HB1.out⟩
                · have z3n : decide (dn ≤ 2048) = false := by simp; omega
                  go_wp2_with fail
                  refine XH.out.mono ?_
                  rintro e9 w9 ⟨rfl, rfl⟩
                  go_wp2_with fail
                  refine XI.out.mono ?_
                  rintro e9 w9 ⟨rfl, rfl⟩
                  go_wp2_with fail
                  refine XN.out.mono ?_
                  rintro e9 w9 ⟨rfl, rfl⟩
                  go_wp2_with fail
                  go_ret
                  exact ⟨by rw [HV.out, z1n, z2n, v1, v2, v3, z3n]; rfl, HB1.out⟩
        · have z2n : decide (err ≤ 255) = false := decide_eq_false z2
          go_wp2_with fail
          go_ret
          exact ⟨by rw [HV.out, z1n, z2n]; rfl, HB1.out⟩
      · have z1n : decide (0 ≤ err) = false := decide_eq_false z1
        go_wp2_with fail
        go_ret
        exact ⟨by rw [HV.out, z1n]; rfl, HB1.out⟩
set_option maxRecDepth 100000 in
set_option maxHeartbeats 40000000 in
theorem rfit_sH (op err h h2 n : Int) (names : List LB) (D A : Option Addr) (dn dc an ac : Nat) (w : World) (h1 : 1 ≤ op) (h2p : op ≤ 16) (hz : (err == 0) = true) (hlf : repliesP op = [72]) (b : Bool) (hA : Reads w w.heap.size 1 A an (svs names)) (hn : an ≤ 100000)
    (hb0 : b = (!badV ([72] : LB) h h2 n dn an && (decide (0 ≤ err) && decide (err ≤ 255) && wideP h && wideP h2 && wideP n && decide (dn ≤ 2048) && txsP 32 names 255))) :
    Calls Try.prog 80 #[.int .i64 op, .agg #[.int .i64 err, .int .i64 h, .int .i64 h2, .int .i64 n, .slice D dn dc, .slice A an ac]] w fun e w' => e = .returned (.bool b) ∧ Below w.heap.size w w' := by
  have HV := hide hb0
  have HRA := hide hA
  clear hA hb0
  have hb := (Below.refl w.heap.size w).alloc (Nat.le_refl _) (.cells #[.int .i64 err, .int .i64 h, .int .i64 h2, .int .i64 n, .slice D dn dc, .slice A an ac] 43)
  have hk := Blk.new w 43 #[.int .i64 err, .int .i64 h, .int .i64 h2, .int .i64 n, .slice D dn dc, .slice A an ac]
  have HB := hide hb
  have HK := hide hk
  have hl := hk.lt
  have XR := hide (fun W => replies_any op W h1 h2p)
  simp only [hlf] at XR
  clear hb
  have hz2 : (err != 0) = false := by rw [bne, hz]; rfl
  obtain ⟨x0, x1, x2, x3, x4, x5⟩ := blk6 hk
  clear hk
  go_enter Try.func80, Try.ntmps80
  go_wp2_with fail
  refine (XR.out _).mono ?_
  rintro e w1 ⟨rfl, hb1⟩
  have HB1 := hide (below_more HB.out (Nat.le_refl _) hb1)
  have HK1 := hide (HK.out.below hb1 hl)
  clear hb1 x0 x1 x2 x3 x4 x5 HB HK XR hl
  have hl := HK1.out.lt
  obtain ⟨x0, x1, x2, x3, x4, x5⟩ := blk6 HK1.out
  have X72 : Hid (Calls Try.prog 70 #[.string ⟨#[72]⟩, .int .u8 72] w1 fun e w' => e = .returned (.bool true) ∧ w1 = w') := hide (has_any [72] 72 w1 (by decide))
  have X73 : Hid (Calls Try.prog 70 #[.string ⟨#[72]⟩, .int .u8 73] w1 fun e w' => e = .returned (.bool false) ∧ w1 = w') := hide (has_any [72] 73 w1 (by decide))
  have X78 : Hid (Calls Try.prog 70 #[.string ⟨#[72]⟩, .int .u8 78] w1 fun e w' => e = .returned (.bool false) ∧ w1 = w') := hide (has_any [72] 78 w1 (by decide))
  have X68 : Hid (Calls Try.prog 70 #[.string ⟨#[72]⟩, .int .u8 68] w1 fun e w' => e = .returned (.bool false) ∧ w1 = w') := hide (has_any [72] 68 w1 (by decide))
  have X83 : Hid (Calls Try.prog 70 #[.string ⟨#[72]⟩, .int .u8 83] w1 fun e w' => e = .returned (.bool false) ∧ w1 = w') := hide (has_any [72] 83 w1 (by decide))
  have HBAD : Hid (badV [72] h h2 n dn an = ((false && (h != 0)) || (true && (h2 != 0)) || (true && (n != 0)) || (true && decide (0 < dn)) || (true && decide (0 < an)))) := hide rfl
  go_upto_region 4 with (fail)
  go_cut [60, 61, 62, 63, 64, 65, 66, 67, 68, 69, 70, 71, 72, 73, 74, 75, 76, 77, 78, 79, 80, 81, 82, 83, 84, 85, 86, 87, 88, 89, 90, 91, 92, 93, 94] (fun u60 u61 u62 u63 u64 u65 u66 u67 u68 u69 u70 u71 u72 u73 u74 u75 u76 u77 u78 u79 u80 u81 u82 u83 u84 u85 u86 u87 u88 u89 u90 u91 u92 u93 u94 wx => u60 = .bool (badV [72] h h2 n dn an) ∧ wx = w1 ∧ u61 = undef ∧ u62 = undef ∧ u63 = undef ∧ u64 = undef ∧ u65 = undef ∧ u66 = undef ∧ u67 = undef ∧ u68 = undef ∧ u69 = undef ∧ u70 = undef ∧ u71 = undef ∧ u72 = undef ∧ u73 = undef ∧ u74 = undef ∧ u75 = undef ∧ u76 = undef ∧ u77 = undef ∧ u78 = undef ∧ u79 = undef ∧ u80 = undef ∧ u81 = undef ∧ u82 = undef ∧ u83 = undef ∧ u84 = undef ∧ u85 = undef ∧ u86 = undef ∧ u87 = undef ∧ u88 = undef ∧ u89 = undef ∧ u90 = undef ∧ u91 = undef ∧ u92 = undef ∧ u93 = undef ∧ u94 = undef)
  case first =>
    go_wp2_with fail
    with_reducible refine X72.out.mono ?_
    rintro e9 w9 ⟨rfl, rfl⟩
    go_wp2_with fail
    with_reducible refine X73.out.mono ?_
    rintro e9 w9 ⟨rfl, rfl⟩
    cases hq1 : (h2 != 0) with
    | true =>
      go_wp2_with fail
      go_meet
      exact ⟨by rw [HBAD.out, hq1]; rfl, rfl, rfl, rfl, rfl, rfl, rfl, rfl, rfl, rfl, rfl, rfl, rfl, rfl, rfl, rfl, rfl, rfl, rfl, rfl, rfl, rfl, rfl, rfl, rfl, rfl, rfl, rfl, rfl, rfl, rfl, rfl, rfl, rfl, rfl, rfl⟩
    | false =>
      go_wp2_with fail
      with_reducible refine X78.out.mono ?_
      rintro e9 w9 ⟨rfl, rfl⟩
      cases hq2 : (n != 0) with
      | true =>
        go_wp2_with fail
        go_meet
        exact ⟨by rw [HBAD.out, hq1, hq2]; rfl, rfl, rfl, rfl, rfl, rfl, rfl, rfl, rfl, rfl, rfl, rfl, rfl, rfl, rfl, rfl, rfl, rfl, rfl, rfl, rfl, rfl, rfl, rfl, rfl, rfl, rfl, rfl, rfl, rfl, rfl, rfl, rfl, rfl, rfl, rfl⟩
      | false =>
        go_wp2_with fail
        with_reducible refine X68.out.mono ?_
        rintro e9 w9 ⟨rfl, rfl⟩
        by_cases hq3 : (0 : Int) < (dn : Int)
        · have hr3 : decide (0 < dn) = true := by simp; omega
          go_wp2_with fail
          go_meet
          exact ⟨by rw [HBAD.out, hq1, hq2, hr3]; rfl, rfl, rfl, rfl, rfl, rfl, rfl, rfl, rfl, rfl, rfl, rfl, rfl, rfl, rfl, rfl, rfl, rfl, rfl, rfl, rfl, rfl, rfl, rfl, rfl, rfl, rfl, rfl, rfl, rfl, rfl, rfl, rfl, rfl, rfl, rfl⟩
        · have hr3 : decide (0 < dn) = false := by simp; omega
          go_wp2_with fail
          with_reducible refine X83.out.mono ?_
          rintro e9 w9 ⟨rfl, rfl⟩
          by_cases hq4 : (0 : Int) < (an : Int)
          · have hr4 : decide (0 < an) = true := by simp; omega
            go_wp2_with fail
            go_meet
            exact ⟨by rw [HBAD.out, hq1, hq2, hr3, hr4]; rfl, rfl, rfl, rfl, rfl, rfl, rfl, rfl, rfl, rfl, rfl, rfl, rfl, rfl, rfl, rfl, rfl, rfl, rfl, rfl, rfl, rfl, rfl, rfl, rfl, rfl, rfl, rfl, rfl, rfl, rfl, rfl, rfl, rfl, rfl, rfl⟩
          · have hr4 : decide (0 < an) = false := by simp; omega
            go_wp2_with fail
            go_meet
            exact ⟨by rw [HBAD.out, hq1, hq2, hr3, hr4]; rfl, rfl, rfl, rfl, rfl, rfl, rfl, rfl, rfl, rfl, rfl, rfl, rfl, rfl, rfl, rfl, rfl, rfl, rfl, rfl, rfl, rfl, rfl, rfl, rfl, rfl, rfl, rfl, rfl, rfl, rfl, rfl, rfl, rfl, rfl, rfl⟩
  case rest =>
    obtain ⟨rfl, rfl, rfl, rfl, rfl, rfl, rfl, rfl, rfl, rfl, rfl, rfl, rfl, rfl, rfl, rfl, rfl, rfl, rfl, rfl, rfl, rfl, rfl, rfl, rfl, rfl, rfl, rfl, rfl, rfl, rfl, rfl, rfl, rfl, rfl, rfl⟩ := hcut
    have HRA1 := hide ((HRA.out.below HB1.out).more HB1.out.size)
    clear HRA HBAD X72 X73 X78 X68 X83
    generalize badV [72] h h2 n dn an = U at *
    cases U with
    | true =>
      go_wp2_with fail
      go_ret
      exact ⟨by rw [HV.out]; rfl, HB1.out⟩
    | false =>
      have XH := hide (rwide_any h wc)
      have XI := hide (rwide_any h2 wc)
      have XN := hide (rwide_any n wc)
      have XS := hide (rshort_any names A an ac wc HRA1.out hn)
      by_cases z1 : 0 ≤ err
      · have z1n : decide (0 ≤ err) = true := decide_eq_true z1
        by_cases z2 : err ≤ 255
        · have z2n : decide (err ≤ 255) = true := decide_eq_true z2
          cases v1 : wideP h with
          | false =>
            rw [v1] at XH
            go_wp2_with fail
            refine XH.out.mono ?_
            rintro e9 w9 ⟨rfl, rfl⟩
            go_wp2_with fail
            go_ret
            exact ⟨by rw [HV.out, z1n, z2n, v1]; rfl, HB1.out⟩
          | true =>
            rw [v1] at XH
            cases v2 : wideP h2 with
            | false =>
              rw [v2] at XI
              go_wp2_with fail
              refine XH.out.mono ?_
              rintro e9 w9 ⟨rfl, rfl⟩
              go_wp2_with fail
              refine XI.out.mono ?_
              rintro e9 w9 ⟨rfl, rfl⟩
              go_wp2_with fail
              go_ret
              exact ⟨by rw [HV.out, z1n, z2n, v1, v2]; rfl, HB1.out⟩
            | true =>
              rw [v2] at XI
              cases v3 : wideP n with
              | false =>
                rw [v3] at XN
                go_wp2_with fail
                refine XH.out.mono ?_
                rintro e9 w9 ⟨rfl, rfl⟩
                go_wp2_with fail
                refine XI.out.mono ?_
                rintro e9 w9 ⟨rfl, rfl⟩
                go_wp2_with fail
                refine XN.out.mono ?_
                rintro e9 w9 ⟨rfl, rfl⟩
                go_wp2_with fail
                go_ret
                exact ⟨by rw [HV.out, z1n, z2n, v1, v2, v3]; rfl, HB1.out⟩
              | true =>
                rw [v3] at XN
                by_cases z3 : (dn : Int) ≤ 2048
                · have z3n : decide (dn ≤ 2048) = true := by simp; omega
                  cases v4 : txsP 32 names 255 with
                  | false =>
                    rw [v4] at XS
                    go_wp2_with fail
                    refine XH.out.mono ?_
                    rintro e9 w9 ⟨rfl, rfl⟩
                    go_wp2_with fail
                    refine XI.out.mono ?_
                    rintro e9 w9 ⟨rfl, rfl⟩
                    go_wp2_with fail
                    refine XN.out.mono ?_
                    rintro e9 w9 ⟨rfl, rfl⟩
                    go_wp2_with fail
                    refine XS.out.mono ?_
                    rintro e9 w9 ⟨rfl, rfl⟩
                    go_wp2_with fail
                    go_ret
                    exact ⟨by rw [HV.out, z1n, z2n, v1, v2, v3, z3n, v4]; rfl, HB1.out⟩
                  | true =>
                    rw [v4] at XS
                    go_wp2_with fail
                    refine XH.out.mono ?_
                    rintro e9 w9 ⟨rfl, rfl⟩
                    go_wp2_with fail
                    refine XI.out.mono ?_
                    rintro e9 w9 ⟨rfl, rfl⟩
                    go_wp2_with fail
                    refine XN.out.mono ?_
                    rintro e9 w9 ⟨rfl, rfl⟩
                    go_wp2_with fail
                    refine XS.out.mono ?_
                    rintro e9 w9 ⟨rfl, rfl⟩
                    go_wp2_with fail
                    go_ret
                    exact ⟨by rw [HV.out, z1n, z2n, v1, v2, v3, z3n, v4]; rfl, HB1.out⟩
                · have z3n : decide (dn ≤ 2048) = false := by simp; omega
                  go_wp2_with fail
                  refine XH.out.mono ?_
                  rintro e9 w9 ⟨rfl, rfl⟩
                  go_wp2_with fail
                  refine XI.out.mono ?_
                  rintro e9 w9 ⟨rfl, rfl⟩
                  go_wp2_with fail
                  refine XN.out.mono ?_
                  rintro e9 w9 ⟨rfl, rfl⟩
                  go_wp2_with fail
                  go_ret
                  exact ⟨by rw [HV.out, z1n, z2n, v1, v2, v3, z3n]; rfl, HB1.out⟩
        · have z2n : decide (err ≤ 255) = false := decide_eq_false z2
          go_wp2_with fail
          go_ret
          exact ⟨by rw [HV.out, z1n, z2n]; rfl, HB1.out⟩
      · have z1n : decide (0 ≤ err) = false := decide_eq_false z1
        go_wp2_with fail
        go_ret
        exact ⟨by rw [HV.out, z1n]; rfl, HB1.out⟩
set_option maxRecDepth 100000 in
set_option maxHeartbeats 40000000 in
theorem rfit_sHI (op err h h2 n : Int) (names : List LB) (D A : Option Addr) (dn dc an ac : Nat) (w : World) (h1 : 1 ≤ op) (h2p : op ≤ 16) (hz : (err == 0) = true) (hlf : repliesP op = [72, 73]) (b : Bool) (hA : Reads w w.heap.size 1 A an (svs names)) (hn : an ≤ 100000)
    (hb0 : b = (!badV ([72, 73] : LB) h h2 n dn an && (decide (0 ≤ err) && decide (err ≤ 255) && wideP h && wideP h2 && wideP n && decide (dn ≤ 2048) && txsP 32 names 255))) :
    Calls Try.prog 80 #[.int .i64 op, .agg #[.int .i64 err, .int .i64 h, .int .i64 h2, .int .i64 n, .slice D dn dc, .slice A an ac]] w fun e w' => e = .returned (.bool b) ∧ Below w.heap.size w w' := by
  have HV := hide hb0
  have HRA := hide hA
  clear hA hb0
  have hb := (Below.refl w.heap.size w).alloc (Nat.le_refl _) (.cells #[.int .i64 err, .int .i64 h, .int .i64 h2, .int .i64 n, .slice D dn dc, .slice A an ac] 43)
  have hk := Blk.new w 43 #[.int .i64 err, .int .i64 h, .int .i64 h2, .int .i64 n, .slice D dn dc, .slice A an ac]
  have HB := hide hb
  have HK := hide hk
  have hl := hk.lt
  have XR := hide (fun W => replies_any op W h1 h2p)
  simp only [hlf] at XR
  clear hb
  have hz2 : (err != 0) = false := by rw [bne, hz]; rfl
  obtain ⟨x0, x1, x2, x3, x4, x5⟩ := blk6 hk
  clear hk
  go_enter Try.func80, Try.ntmps80
  go_wp2_with fail
  refine (XR.out _).mono ?_
  rintro e w1 ⟨rfl, hb1⟩
  have HB1 := hide (below_more HB.out (Nat.le_refl _) hb1)
  have HK1 := hide (HK.out.below hb1 hl)
  clear hb1 x0 x1 x2 x3 x4 x5 HB HK XR hl
  have hl := HK1.out.lt
  obtain ⟨x0, x1, x2, x3, x4, x5⟩ := blk6 HK1.out
  have X72 : Hid (Calls Try.prog 70 #[.string ⟨#[72, 73]⟩, .int .u8 72] w1 fun e w' => e = .returned (.bool true) ∧ w1 = w') := hide (has_any [72, 73] 72 w1 (by decide))
  have X73 : Hid (Calls Try.prog 70 #[.string ⟨#[72, 73]⟩, .int .u8 73] w1 fun e w' => e = .returned (.bool true) ∧ w1 = w') := hide (has_any [72, 73] 73 w1 (by decide))
  have X78 : Hid (Calls Try.prog 70 #[.string ⟨#[72, 73]⟩, .int .u8 78] w1 fun e w' => e = .returned (.bool false) ∧ w1 = w') := hide (has_any [72, 73] 78 w1 (by decide))
  have X68 : Hid (Calls Try.prog 70 #[.string ⟨#[72, 73]⟩, .int .u8 68] w1 fun e w' => e = .returned (.bool false) ∧ w1 = w') := hide (has_any [72, 73] 68 w1 (by decide))
  have X83 : Hid (Calls Try.prog 70 #[.string ⟨#[72, 73]⟩, .int .u8 83] w1 fun e w' => e = .returned (.bool false) ∧ w1 = w') := hide (has_any [72, 73] 83 w1 (by decide))
  have HBAD : Hid (badV [72, 73] h h2 n dn an = ((false && (h != 0)) || (false && (h2 != 0)) || (true && (n != 0)) || (true && decide (0 < dn)) || (true && decide (0 < an)))) := hide rfl
  go_upto_region 4 with (fail)
  go_cut [60, 61, 62, 63, 64, 65, 66, 67, 68, 69, 70, 71, 72, 73, 74, 75, 76, 77, 78, 79, 80, 81, 82, 83, 84, 85, 86, 87, 88, 89, 90, 91, 92, 93, 94] (fun u60 u61 u62 u63 u64 u65 u66 u67 u68 u69 u70 u71 u72 u73 u74 u75 u76 u77 u78 u79 u80 u81 u82 u83 u84 u85 u86 u87 u88 u89 u90 u91 u92 u93 u94 wx => u60 = .bool (badV [72, 73] h h2 n dn an) ∧ wx = w1 ∧ u61 = undef ∧ u62 = undef ∧ u63 = undef ∧ u64 = undef ∧ u65 = undef ∧ u66 = undef ∧ u67 = undef ∧ u68 = undef ∧ u69 = undef ∧ u70 = undef ∧ u71 = undef ∧ u72 = undef ∧ u73 = undef ∧ u74 = undef ∧ u75 = undef ∧ u76 = undef ∧ u77 = undef ∧ u78 = undef ∧ u79 = undef ∧ u80 = undef ∧ u81 = undef ∧ u82 = undef ∧ u83 = undef ∧ u84 = undef ∧ u85 = undef ∧ u86 = undef ∧ u87 = undef ∧ u88 = undef ∧ u89 = undef ∧ u90 = undef ∧ u91 = undef ∧ u92 = undef ∧ u93 = undef ∧ u94 = undef)
  case first =>
    go_wp2_with fail
    with_reducible refine X72.out.mono ?_
    rintro e9 w9 ⟨rfl, rfl⟩
    go_wp2_with fail
    with_reducible refine X73.out.mono ?_
    rintro e9 w9 ⟨rfl, rfl⟩
    go_wp2_with fail
    with_reducible refine X78.out.mono ?_
    rintro e9 w9 ⟨rfl, rfl⟩
    cases hq2 : (n != 0) with
    | true =>
      go_wp2_with fail
      go_meet
      exact ⟨by rw [HBAD.out, hq2]; rfl, rfl, rfl, rfl, rfl, rfl, rfl, rfl, rfl, rfl, rfl, rfl, rfl, rfl, rfl, rfl, rfl, rfl, rfl, rfl, rfl, rfl, rfl, rfl, rfl, rfl, rfl, rfl, rfl, rfl, rfl, rfl, rfl, rfl, rfl, rfl⟩
    | false =>
      go_wp2_with fail
      with_reducible refine X68.out.mono ?_
      rintro e9 w9 ⟨rfl, rfl⟩
      by_cases hq3 : (0 : Int) < (dn : Int)
      · have hr3 : decide (0 < dn) = true := by simp; omega
        go_wp2_with fail
        go_meet
        exact ⟨by rw [HBAD.out, hq2, hr3]; rfl, rfl, rfl, rfl, rfl, rfl, rfl, rfl, rfl, rfl, rfl, rfl, rfl, rfl, rfl, rfl, rfl, rfl, rfl, rfl, rfl, rfl, rfl, rfl, rfl, rfl, rfl, rfl, rfl, rfl, rfl, rfl, rfl, rfl, rfl, rfl⟩
      · have hr3 : decide (0 < dn) = false := by simp; omega
        go_wp2_with fail
        with_reducible refine X83.out.mono ?_
        rintro e9 w9 ⟨rfl, rfl⟩
        by_cases hq4 : (0 : Int) < (an : Int)
        · have hr4 : decide (0 < an) = true := by simp; omega
          go_wp2_with fail
          go_meet
          exact ⟨by rw [HBAD.out, hq2, hr3, hr4]; rfl, rfl, rfl, rfl, rfl, rfl, rfl, rfl, rfl, rfl, rfl, rfl, rfl, rfl, rfl, rfl, rfl, rfl, rfl, rfl, rfl, rfl, rfl, rfl, rfl, rfl, rfl, rfl, rfl, rfl, rfl, rfl, rfl, rfl, rfl, rfl⟩
        · have hr4 : decide (0 < an) = false := by simp; omega
          go_wp2_with fail
          go_meet
          exact ⟨by rw [HBAD.out, hq2, hr3, hr4]; rfl, rfl, rfl, rfl, rfl, rfl, rfl, rfl, rfl, rfl, rfl, rfl, rfl, rfl, rfl, rfl, rfl, rfl, rfl, rfl, rfl, rfl, rfl, rfl, rfl, rfl, rfl, rfl, rfl, rfl, rfl, rfl, rfl, rfl, rfl, rfl⟩
  case rest =>
    obtain ⟨rfl, rfl, rfl, rfl, rfl, rfl, rfl, rfl, rfl, rfl, rfl, rfl, rfl, rfl, rfl, rfl, rfl, rfl, rfl, rfl, rfl, rfl, rfl, rfl, rfl, rfl, rfl, rfl, rfl, rfl, rfl, rfl, rfl, rfl, rfl, rfl⟩ := hcut
    have HRA1 := hide ((HRA.out.below HB1.out).more HB1.out.size)
    clear HRA HBAD X72 X73 X78 X68 X83
    generalize badV [72, 73] h h2 n dn an = U at *
    cases U with
    | true =>
      go_wp2_with fail
      go_ret
      exact ⟨by rw [HV.out]; rfl, HB1.out⟩
    | false =>
      have XH := hide (rwide_any h wc)
      have XI := hide (rwide_any h2 wc)
      have XN := hide (rwide_any n wc)
      have XS := hide (rshort_any names A an ac wc HRA1.out hn)
      by_cases z1 : 0 ≤ err
      · have z1n : decide (0 ≤ err) = true := decide_eq_true z1
        by_cases z2 : err ≤ 255
        · have z2n : decide (err ≤ 255) = true := decide_eq_true z2
          cases v1 : wideP h with
          | false =>
            rw [v1] at XH
            go_wp2_with fail
            refine XH.out.mono ?_
            rintro e9 w9 ⟨rfl, rfl⟩
            go_wp2_with fail
            go_ret
            exact ⟨by rw [HV.out, z1n, z2n, v1]; rfl, HB1.out⟩
          | true =>
            rw [v1] at XH
            cases v2 : wideP h2 with
            | false =>
              rw [v2] at XI
              go_wp2_with fail
              refine XH.out.mono ?_
              rintro e9 w9 ⟨rfl, rfl⟩
              go_wp2_with fail
              refine XI.out.mono ?_
              rintro e9 w9 ⟨rfl, rfl⟩
              go_wp2_with fail
              go_ret
              exact ⟨by rw [HV.out, z1n, z2n, v1, v2]; rfl, HB1.out⟩
            | true =>
              rw [v2] at XI
              cases v3 : wideP n with
              | false =>
                rw [v3] at XN
                go_wp2_with fail
                refine XH.out.mono ?_
                rintro e9 w9 ⟨rfl, rfl⟩
                go_wp2_with fail
                refine XI.out.mono ?_
                rintro e9 w9 ⟨rfl, rfl⟩
                go_wp2_with fail
                refine XN.out.mono ?_
                rintro e9 w9 ⟨rfl, rfl⟩
                go_wp2_with fail
                go_ret
                exact ⟨by rw [HV.out, z1n, z2n, v1, v2, v3]; rfl, HB1.out⟩
              | true =>
                rw [v3] at XN
                by_cases z3 : (dn : Int) ≤ 2048
                · have z3n : decide (dn ≤ 2048) = true := by simp; omega
                  cases v4 : txsP 32 names 255 with
                  | false =>
                    rw [v4] at XS
                    go_wp2_with fail
                    refine XH.out.mono ?_
                    rintro e9 w9 ⟨rfl, rfl⟩
                    go_wp2_with fail
                    refine XI.out.mono ?_
                    rintro e9 w9 ⟨rfl, rfl⟩
                    go_wp2_with fail
                    refine XN.out.mono ?_
                    rintro e9 w9 ⟨rfl, rfl⟩
                    go_wp2_with fail
                    refine XS.out.mono ?_
                    rintro e9 w9 ⟨rfl, rfl⟩
                    go_wp2_with fail
                    go_ret
                    exact ⟨by rw [HV.out, z1n, z2n, v1, v2, v3, z3n, v4]; rfl, HB1.out⟩
                  | true =>
                    rw [v4] at XS
                    go_wp2_with fail
                    refine XH.out.mono ?_
                    rintro e9 w9 ⟨rfl, rfl⟩
                    go_wp2_with fail
                    refine XI.out.mono ?_
                    rintro e9 w9 ⟨rfl, rfl⟩
                    go_wp2_with fail
                    refine XN.out.mono ?_
                    rintro e9 w9 ⟨rfl, rfl⟩
                    go_wp2_with fail
                    refine XS.out.mono ?_
                    rintro e9 w9 ⟨rfl, rfl⟩
                    go_wp2_with fail
                    go_ret
                    exact ⟨by rw [HV.out, z1n, z2n, v1, v2, v3, z3n, v4]; rfl, HB1.out⟩
                · have z3n : decide (dn ≤ 2048) = false := by simp; omega
                  go_wp2_with fail
                  refine XH.out.mono ?_
                  rintro e9 w9 ⟨rfl, rfl⟩
                  go_wp2_with fail
                  refine XI.out.mono ?_
                  rintro e9 w9 ⟨rfl, rfl⟩
                  go_wp2_with fail
                  refine XN.out.mono ?_
                  rintro e9 w9 ⟨rfl, rfl⟩
                  go_wp2_with fail
                  go_ret
                  exact ⟨by rw [HV.out, z1n, z2n, v1, v2, v3, z3n]; rfl, HB1.out⟩
        · have z2n : decide (err ≤ 255) = false := decide_eq_false z2
          go_wp2_with fail
          go_ret
          exact ⟨by rw [HV.out, z1n, z2n]; rfl, HB1.out⟩
      · have z1n : decide (0 ≤ err) = false := decide_eq_false z1
        go_wp2_with fail
        go_ret
        exact ⟨by rw [HV.out, z1n]; rfl, HB1.out⟩
set_option maxRecDepth 100000 in
set_option maxHeartbeats 40000000 in
theorem rfit_sND (op err h h2 n : Int) (names : List LB) (D A : Option Addr) (dn dc an ac : Nat) (w : World) (h1 : 1 ≤ op) (h2p : op ≤ 16) (hz : (err == 0) = true) (hlf : repliesP op = [78, 68]) (b : Bool) (hA : Reads w w.heap.size 1 A an (svs names)) (hn : an ≤ 100000)
    (hb0 : b = (!badV ([78, 68] : LB) h h2 n dn an && (decide (0 ≤ err) && decide (err ≤ 255) && wideP h && wideP h2 && wideP n && decide (dn ≤ 2048) && txsP 32 names 255))) :
    Calls Try.prog 80 #[.int .i64 op, .agg #[.int .i64 err, .int .i64 h, .int .i64 h2, .int .i64 n, .slice D dn dc, .slice A an ac]] w fun e w' => e = .returned (.bool b) ∧ Below w.heap.size w w' := by
  have HV := hide hb0
  have HRA := hide hA
  clear hA hb0
  have hb := (Below.refl w.heap.size w).alloc (Nat.le_refl _) (.cells #[.int .i64 err, .int .i64 h, .int .i64 h2, .int .i64 n, .slice D dn dc, .slice A an ac] 43)
  have hk := Blk.new w 43 #[.int .i64 err, .int .i64 h, .int .i64 h2, .int .i64 n, .slice D dn dc, .slice A an ac]
  have HB := hide hb
  have HK := hide hk
  have hl := hk.lt
  have XR := hide (fun W => replies_any op W h1 h2p)
  simp only [hlf] at XR
  clear hb
  have hz2 : (err != 0) = false := by rw [bne, hz]; rfl
  obtain ⟨x0, x1, x2, x3, x4, x5⟩ := blk6 hk
  clear hk
  go_enter Try.func80, Try.ntmps80
  go_wp2_with fail
  refine (XR.out _).mono ?_
  rintro e w1 ⟨rfl, hb1⟩
  have HB1 := hide (below_more HB.out (Nat.le_refl _) hb1)
  have HK1 := hide (HK.out.below hb1 hl)
  clear hb1 x0 x1 x2 x3 x4 x5 HB HK XR hl
  have hl := HK1.out.lt
  obtain ⟨x0, x1, x2, x3, x4, x5⟩ := blk6 HK1.out
  have X72 : Hid (Calls Try.prog 70 #[.string ⟨#[78, 68]⟩, .int .u8 72] w1 fun e w' => e = .returned (.bool false) ∧ w1 = w') := hide (has_any [78, 68] 72 w1 (by decide))
  have X73 : Hid (Calls Try.prog 70 #[.string ⟨#[78, 68]⟩, .int .u8 73] w1 fun e w' => e = .returned (.bool false) ∧ w1 = w') := hide (has_any [78, 68] 73 w1 (by decide))
  have X78 : Hid (Calls Try.prog 70 #[.string ⟨#[78, 68]⟩, .int .u8 78] w1 fun e w' => e = .returned (.bool true) ∧ w1 = w') := hide (has_any [78, 68] 78 w1 (by decide))
  have X68 : Hid (Calls Try.prog 70 #[.string ⟨#[78, 68]⟩, .int .u8 68] w1 fun e w' => e = .returned (.bool true) ∧ w1 = w') := hide (has_any [78, 68] 68 w1 (by decide))
  have X83 : Hid (Calls Try.prog 70 #[.string ⟨#[78, 68]⟩, .int .u8 83] w1 fun e w' => e = .returned (.bool false) ∧ w1 = w') := hide (has_any [78, 68] 83 w1 (by decide))
  have HBAD : Hid (badV [78, 68] h h2 n dn an = ((true && (h != 0)) || (true && (h2 != 0)) || (false && (n != 0)) || (false && decide (0 < dn)) || (true && decide (0 < an)))) := hide rfl
  go_upto_region 4 with (fail)
  go_cut [60, 61, 62, 63, 64, 65, 66, 67, 68, 69, 70, 71, 72, 73, 74, 75, 76, 77, 78, 79, 80, 81, 82, 83, 84, 85, 86, 87, 88, 89, 90, 91, 92, 93, 94] (fun u60 u61 u62 u63 u64 u65 u66 u67 u68 u69 u70 u71 u72 u73 u74 u75 u76 u77 u78 u79 u80 u81 u82 u83 u84 u85 u86 u87 u88 u89 u90 u91 u92 u93 u94 wx => u60 = .bool (badV [78, 68] h h2 n dn an) ∧ wx = w1 ∧ u61 = undef ∧ u62 = undef ∧ u63 = undef ∧ u64 = undef ∧ u65 = undef ∧ u66 = undef ∧ u67 = undef ∧ u68 = undef ∧ u69 = undef ∧ u70 = undef ∧ u71 = undef ∧ u72 = undef ∧ u73 = undef ∧ u74 = undef ∧ u75 = undef ∧ u76 = undef ∧ u77 = undef ∧ u78 = undef ∧ u79 = undef ∧ u80 = undef ∧ u81 = undef ∧ u82 = undef ∧ u83 = undef ∧ u84 = undef ∧ u85 = undef ∧ u86 = undef ∧ u87 = undef ∧ u88 = undef ∧ u89 = undef ∧ u90 = undef ∧ u91 = undef ∧ u92 = undef ∧ u93 = undef ∧ u94 = undef)
  case first =>
    go_wp2_with fail
    with_reducible refine X72.out.mono ?_
    rintro e9 w9 ⟨rfl, rfl⟩
    cases hq0 : (h != 0) with
    | true =>
      go_wp2_with fail
      go_meet
      exact ⟨by rw [HBAD.out, hq0]; rfl, rfl, rfl, rfl, rfl, rfl, rfl, rfl, rfl, rfl, rfl, rfl, rfl, rfl, rfl, rfl, rfl, rfl, rfl, rfl, rfl, rfl, rfl, rfl, rfl, rfl, rfl, rfl, rfl, rfl, rfl, rfl, rfl, rfl, rfl, rfl⟩
    | false =>
      go_wp2_with fail
      with_reducible refine X73.out.mono ?_
      rintro e9 w9 ⟨rfl, rfl⟩
      cases hq1 : (h2 != 0) with
      | true =>
        go_wp2_with fail
        go_meet
        exact ⟨by rw [HBAD.out, hq0, hq1]; rfl, rfl, rfl, rfl, rfl, rfl, rfl, rfl, rfl, rfl, rfl, rfl, rfl, rfl, rfl, rfl, rfl, rfl, rfl, rfl, rfl, rfl, rfl, rfl, rfl, rfl, rfl, rfl, rfl, rfl, rfl, rfl, rfl, rfl, rfl, rfl⟩
      | false =>
        go_wp2_with fail
        with_reducible refine X78.out.mono ?_
        rintro e9 w9 ⟨rfl, rfl⟩
        go_wp2_with fail
        with_reducible refine X68.out.mono ?_
        rintro e9 w9 ⟨rfl, rfl⟩
        go_wp2_with fail
        with_reducible refine X83.out.mono ?_
        rintro e9 w9 ⟨rfl, rfl⟩
        by_cases hq4 : (0 : Int) < (an : Int)
        · have hr4 : decide (0 < an) = true := by simp; omega
          go_wp2_with fail
          go_meet
          exact ⟨by rw [HBAD.out, hq0, hq1, hr4]; rfl, rfl, rfl, rfl, rfl, rfl, rfl, rfl, rfl, rfl, rfl, rfl, rfl, rfl, rfl, rfl, rfl, rfl, rfl, rfl, rfl, rfl, rfl, rfl, rfl, rfl, rfl, rfl, rfl, rfl, rfl, rfl, rfl, rfl, rfl, rfl⟩
        · have hr4 : decide (0 < an) = false := by simp; omega
          go_wp2_with fail
          go_meet
          exact ⟨by rw [HBAD.out, hq0, hq1, hr4]; rfl, rfl, rfl, rfl, rfl, rfl, rfl, rfl, rfl, rfl, rfl, rfl, rfl, rfl, rfl, rfl, rfl, rfl, rfl, rfl, rfl, rfl, rfl, rfl, rfl, rfl, rfl, rfl, rfl, rfl, rfl, rfl, rfl, rfl, rfl, rfl⟩
  case rest =>
    obtain ⟨rfl, rfl, rfl, rfl, rfl, rfl, rfl, rfl, rfl, rfl, rfl, rfl, rfl, rfl, rfl, rfl, rfl, rfl, rfl, rfl, rfl, rfl, rfl, rfl, rfl, rfl, rfl, rfl, rfl, rfl, rfl, rfl, rfl, rfl, rfl, rfl⟩ := hcut
    have HRA1 := hide ((HRA.out.below HB1.out).more HB1.out.size)
    clear HRA HBAD X72 X73 X78 X68 X83
    generalize badV [78, 68] h h2 n dn an = U at *
    cases U with
    | true =>
      go_wp2_with fail
      go_ret
      exact ⟨by rw [HV.out]; rfl, HB1.out⟩
    | false =>
      have XH := hide (rwide_any h wc)
      have XI := hide (rwide_any h2 wc)
      have XN := hide (rwide_any n wc)
      have XS := hide (rshort_any names A an ac wc HRA1.out hn)
      by_cases z1 : 0 ≤ err
      · have z1n : decide (0 ≤ err) = true := decide_eq_true z1
        by_cases z2 : err ≤ 255
        · have z2n : decide (err ≤ 255) = true := decide_eq_true z2
          cases v1 : wideP h with
          | false =>
            rw [v1] at XH
            go_wp2_with fail
            refine XH.out.mono ?_
            rintro e9 w9 ⟨rfl, rfl⟩
            go_wp2_with fail
            go_ret
            exact ⟨by rw [HV.out, z1n, z2n, v1]; rfl, HB1.out⟩
          | true =>
            rw [v1] at XH
            cases v2 : wideP h2 with
            | false =>
              rw [v2] at XI
              go_wp2_with fail
              refine XH.out.mono ?_
              rintro e9 w9 ⟨rfl, rfl⟩
              go_wp2_with fail
              refine XI.out.mono ?_
              rintro e9 w9 ⟨rfl, rfl⟩
              go_wp2_with fail
              go_ret
              exact ⟨by rw [HV.out, z1n, z2n, v1, v2]; rfl, HB1.out⟩
            | true =>
              rw [v2] at XI
              cases v3 : wideP n with
              | false =>
                rw [v3] at XN
                go_wp2_with fail
                refine XH.out.mono ?_
                rintro e9 w9 ⟨rfl, rfl⟩
                go_wp2_with fail
                refine XI.out.mono ?_
                rintro e9 w9 ⟨rfl, rfl⟩
                go_wp2_with fail
                refine XN.out.mono ?_
                rintro e9 w9 ⟨rfl, rfl⟩
                go_wp2_with fail
                go_ret
                exact ⟨by rw [HV.out, z1n, z2n, v1, v2, v3]; rfl, HB1.out⟩
              | true =>
                rw [v3] at XN
                by_cases z3 : (dn : Int) ≤ 2048
                · have z3n : decide (dn ≤ 2048) = true := by simp; omega
                  cases v4 : txsP 32 names 255 with
                  | false =>
                    rw [v4] at XS
                    go_wp2_with fail
                    refine XH.out.mono ?_
                    rintro e9 w9 ⟨rfl, rfl⟩
                    go_wp2_with fail
                    refine XI.out.mono ?_
                    rintro e9 w9 ⟨rfl, rfl⟩
                    go_wp2_with fail
                    refine XN.out.mono ?_
                    rintro e9 w9 ⟨rfl, rfl⟩
                    go_wp2_with fail
                    refine XS.out.mono ?_
                    rintro e9 w9 ⟨rfl, rfl⟩
                    go_wp2_with fail
                    go_ret
                    exact ⟨by rw [HV.out, z1n, z2n, v1, v2, v3, z3n, v4]; rfl, HB1.out⟩
                  | true =>
                    rw [v4] at XS
                    go_wp2_with fail
                    refine XH.out.mono ?_
                    rintro e9 w9 ⟨rfl, rfl⟩
                    go_wp2_with fail
                    refine XI.out.mono ?_
                    rintro e9 w9 ⟨rfl, rfl⟩
                    go_wp2_with fail
                    refine XN.out.mono ?_
                    rintro e9 w9 ⟨rfl, rfl⟩
                    go_wp2_with fail
                    refine XS.out.mono ?_
                    rintro e9 w9 ⟨rfl, rfl⟩
                    go_wp2_with fail
                    go_ret
                    exact ⟨by rw [HV.out, z1n, z2n, v1, v2, v3, z3n, v4]; rfl, HB1.out⟩
                · have z3n : decide (dn ≤ 2048) = false := by simp; omega
                  go_wp2_with fail
                  refine XH.out.mono ?_
                  rintro e9 w9 ⟨rfl, rfl⟩
                  go_wp2_with fail
                  refine XI.out.mono ?_
                  rintro e9 w9 ⟨rfl, rfl⟩
                  go_wp2_with fail
                  refine XN.out.mono ?_
                  rintro e9 w9 ⟨rfl, rfl⟩
                  go_wp2_with fail
                  go_ret
                  exact ⟨by rw [HV.out, z1n, z2n, v1, v2, v3, z3n]; rfl, HB1.out⟩
        · have z2n : decide (err ≤ 255) = false := decide_eq_false z2
          go_wp2_with fail
          go_ret
          exact ⟨by rw [HV.out, z1n, z2n]; rfl, HB1.out⟩
      · have z1n : decide (0 ≤ err) = false := decide_eq_false z1
        go_wp2_with fail
        go_ret
        exact ⟨by rw [HV.out, z1n]; rfl, HB1.out⟩
set_option maxRecDepth 100000 in
set_option maxHeartbeats 40000000 in
theorem rfit_sN (op err h h2 n : Int) (names : List LB) (D A : Option Addr) (dn dc an ac : Nat) (w : World) (h1 : 1 ≤ op) (h2p : op ≤ 16) (hz : (err == 0) = true) (hlf : repliesP op = [78]) (b : Bool) (hA : Reads w w.heap.size 1 A an (svs names)) (hn : an ≤ 100000)
    (hb0 : b = (!badV ([78] : LB) h h2 n dn an && (decide (0 ≤ err) && decide (err ≤ 255) && wideP h && wideP h2 && wideP n && decide (dn ≤ 2048) && txsP 32 names 255))) :
    Calls Try.prog 80 #[.int .i64 op, .agg #[.int .i64 err, .int .i64 h, .int .i64 h2, .int .i64 n, .slice D dn dc, .slice A an ac]] w fun e w' => e = .returned (.bool b) ∧ Below w.heap.size w w' := by
  have HV := hide hb0
  have HRA := hide hA
  clear hA hb0
  have hb := (Below.refl w.heap.size w).alloc (Nat.le_refl _) (.cells #[.int .i64 err, .int .i64 h, .int .i64 h2, .int .i64 n, .slice D dn dc, .slice A an ac] 43)
  have hk := Blk.new w 43 #[.int .i64 err, .int .i64 h, .int .i64 h2, .int .i64 n, .slice D dn dc, .slice A an ac]
  have HB := hide hb
  have HK := hide hk
  have hl := hk.lt
  have XR := hide (fun W => replies_any op W h1 h2p)
  simp only [hlf] at XR
  clear hb
  have hz2 : (err != 0) = false := by rw [bne, hz]; rfl
  obtain ⟨x0, x1, x2, x3, x4, x5⟩ := blk6 hk
  clear hk
  go_enter Try.func80, Try.ntmps80
  go_wp2_with fail
  refine (XR.out _).mono ?_
  rintro e w1 ⟨rfl, hb1⟩
  have HB1 := hide (below_more HB.out (Nat.le_refl _) hb1)
  have HK1 := hide (HK.out.below hb1 hl)
  clear hb1 x0 x1 x2 x3 x4 x5 HB HK XR hl
  have hl := HK1.out.lt
  obtain ⟨x0, x1, x2, x3, x4, x5⟩ := blk6 HK1.out
  have X72 : Hid (Calls Try.prog 70 #[.string ⟨#[78]⟩, .int .u8 72] w1 fun e w' => e = .returned (.bool false) ∧ w1 = w') := hide (has_any [78] 72 w1 (by decide))
  have X73 : Hid (Calls Try.prog 70 #[.string ⟨#[78]⟩, .int .u8 73] w1 fun e w' => e = .returned (.bool false) ∧ w1 = w') := hide (has_any [78] 73 w1 (by decide))
  have X78 : Hid (Calls Try.prog 70 #[.string ⟨#[78]⟩, .int .u8 78] w1 fun e w' => e = .returned (.bool true) ∧ w1 = w') := hide (has_any [78] 78 w1 (by decide))
  have X68 : Hid (Calls Try.prog 70 #[.string ⟨#[78]⟩, .int .u8 68] w1 fun e w' => e = .returned (.bool false) ∧ w1 = w') := hide (has_any [78] 68 w1 (by decide))
  have X83 : Hid (Calls Try.prog 70 #[.string ⟨#[78]⟩, .int .u8 83] w1 fun e w' => e = .returned (.bool false) ∧ w1 = w') := hide (has_any [78] 83 w1 (by decide))
  have HBAD : Hid (badV [78] h h2 n dn an = ((true && (h != 0)) || (true && (h2 != 0)) || (false && (n != 0)) || (true && decide (0 < dn)) || (true && decide (0 < an)))) := hide rfl
  go_upto_region 4 with (fail)
  go_cut [60, 61, 62, 63, 64, 65, 66, 67, 68, 69, 70, 71, 72, 73, 74, 75, 76, 77, 78, 79, 80, 81, 82, 83, 84, 85, 86, 87, 88, 89, 90, 91, 92, 93, 94] (fun u60 u61 u62 u63 u64 u65 u66 u67 u68 u69 u70 u71 u72 u73 u74 u75 u76 u77 u78 u79 u80 u81 u82 u83 u84 u85 u86 u87 u88 u89 u90 u91 u92 u93 u94 wx => u60 = .bool (badV [78] h h2 n dn an) ∧ wx = w1 ∧ u61 = undef ∧ u62 = undef ∧ u63 = undef ∧ u64 = undef ∧ u65 = undef ∧ u66 = undef ∧ u67 = undef ∧ u68 = undef ∧ u69 = undef ∧ u70 = undef ∧ u71 = undef ∧ u72 = undef ∧ u73 = undef ∧ u74 = undef ∧ u75 = undef ∧ u76 = undef ∧ u77 = undef ∧ u78 = undef ∧ u79 = undef ∧ u80 = undef ∧ u81 = undef ∧ u82 = undef ∧ u83 = undef ∧ u84 = undef ∧ u85 = undef ∧ u86 = undef ∧ u87 = undef ∧ u88 = undef ∧ u89 = undef ∧ u90 = undef ∧ u91 = undef ∧ u92 = undef ∧ u93 = undef ∧ u94 = undef)
  case first =>
    go_wp2_with fail
    with_reducible refine X72.out.mono ?_
    rintro e9 w9 ⟨rfl, rfl⟩
    cases hq0 : (h != 0) with
    | true =>
      go_wp2_with fail
      go_meet
      exact ⟨by rw [HBAD.out, hq0]; rfl, rfl, rfl, rfl, rfl, rfl, rfl, rfl, rfl, rfl, rfl, rfl, rfl, rfl, rfl, rfl, rfl, rfl, rfl, rfl, rfl, rfl, rfl, rfl, rfl, rfl, rfl, rfl, rfl, rfl, rfl, rfl, rfl, rfl, rfl, rfl⟩
    | false =>
      go_wp2_with fail
      with_reducible refine X73.out.mono ?_
      rintro e9 w9 ⟨rfl, rfl⟩
      cases hq1 : (h2 != 0) with
      | true =>
        go_wp2_with fail
        go_meet
        exact ⟨by rw [HBAD.out, hq0, hq1]; rfl, rfl, rfl, rfl, rfl, rfl, rfl, rfl, rfl, rfl, rfl, rfl, rfl, rfl, rfl, rfl, rfl, rfl, rfl, rfl, rfl, rfl, rfl, rfl, rfl, rfl, rfl, rfl, rfl, rfl, rfl, rfl, rfl, rfl, rfl, rfl⟩
      | false =>
        go_wp2_with fail
        with_reducible refine X78.out.mono ?_
        rintro e9 w9 ⟨rfl, rfl⟩
        go_wp2_with fail
        with_reducible refine X68.out.mono ?_
        rintro e9 w9 ⟨rfl, rfl⟩
        by_cases hq3 : (0 : Int) < (dn : Int)
        · have hr3 : decide (0 < dn) = true := by simp; omega
          go_wp2_with fail
          go_meet
          exact ⟨by rw [HBAD.out, hq0, hq1, hr3]; rfl, rfl, rfl, rfl, rfl, rfl, rfl, rfl, rfl, rfl, rfl, rfl, rfl, rfl, rfl, rfl, rfl, rfl, rfl, rfl, rfl, rfl, rfl, rfl, rfl, rfl, rfl, rfl, rfl, rfl, rfl, rfl, rfl, rfl, rfl, rfl⟩
        · have hr3 : decide (0 < dn) = false := by simp; omega
          go_wp2_with fail
          with_reducible refine X83.out.mono ?_
          rintro e9 w9 ⟨rfl, rfl⟩
          by_cases hq4 : (0 : Int) < (an : Int)
          · have hr4 : decide (0 < an) = true := by simp; omega
            go_wp2_with fail
            go_meet
            exact ⟨by rw [HBAD.out, hq0, hq1, hr3, hr4]; rfl, rfl, rfl, rfl, rfl, rfl, rfl, rfl, rfl, rfl, rfl, rfl, rfl, rfl, rfl, rfl, rfl, rfl, rfl, rfl, rfl, rfl, rfl, rfl, rfl, rfl, rfl, rfl, rfl, rfl, rfl, rfl, rfl, rfl, rfl, rfl⟩
          · have hr4 : decide (0 < an) = false := by simp; omega
            go_wp2_with fail
            go_meet
            exact ⟨by rw [HBAD.out, hq0, hq1, hr3, hr4]; rfl, rfl, rfl, rfl, rfl, rfl, rfl, rfl, rfl, rfl, rfl, rfl, rfl, rfl, rfl, rfl, rfl, rfl, rfl, rfl, rfl, rfl, rfl, rfl, rfl, rfl, rfl, rfl, rfl, rfl, rfl, rfl, rfl, rfl, rfl, rfl⟩
  case rest =>
    obtain ⟨rfl, rfl, rfl, rfl, rfl, rfl, rfl, rfl, rfl, rfl, rfl, rfl, rfl, rfl, rfl, rfl, rfl, rfl, rfl, rfl, rfl, rfl, rfl, rfl, rfl, rfl, rfl, rfl, rfl, rfl, rfl, rfl, rfl, rfl, rfl, rfl⟩ := hcut
    have HRA1 := hide ((HRA.out.below HB1.out).more HB1.out.size)
    clear HRA HBAD X72 X73 X78 X68 X83
    generalize badV [78] h h2 n dn an = U at *
    cases U with
    | true =>
      go_wp2_with fail
      go_ret
      exact ⟨by rw [HV.out]; rfl, HB1.out⟩
    | false =>
      have XH := hide (rwide_any h wc)
      have XI := hide (rwide_any h2 wc)
      have XN := hide (rwide_any n wc)
      have XS := hide (rshort_any names A an ac wc HRA1.out hn)
      by_cases z1 : 0 ≤ err
      · have z1n : decide (0 ≤ err) = true := decide_eq_true z1
        by_cases z2 : err ≤ 255
        · have z2n : decide (err ≤ 255) = true := decide_eq_true z2
          cases v1 : wideP h with
          | false =>
            rw [v1] at XH
            go_wp2_with fail
            refine XH.out.mono ?_
            rintro e9 w9 ⟨rfl, rfl⟩
            go_wp2_with fail
            go_ret
            exact ⟨by rw [HV.out, z1n, z2n, v1]; rfl, HB1.out⟩
          | true =>
            rw [v1] at XH
            cases v2 : wideP h2 with
            | false =>
              rw [v2] at XI
              go_wp2_with fail
              refine XH.out.mono ?_
              rintro e9 w9 ⟨rfl, rfl⟩
              go_wp2_with fail
              refine XI.out.mono ?_
              rintro e9 w9 ⟨rfl, rfl⟩
              go_wp2_with fail
              go_ret
              exact ⟨by rw [HV.out, z1n, z2n, v1, v2]; rfl, HB1.out⟩
            | true =>
              rw [v2] at XI
              cases v3 : wideP n with
              | false =>
                rw [v3] at XN
                go_wp2_with fail
                refine XH.out.mono ?_
                rintro e9 w9 ⟨rfl, rfl⟩
                go_wp2_with fail
                refine XI.out.mono ?_
                rintro e9 w9 ⟨rfl, rfl⟩
                go_wp2_with fail
                refine XN.out.mono ?_
                rintro e9 w9 ⟨rfl, rfl⟩
                go_wp2_with fail
                go_ret
                exact ⟨by rw [HV.out, z1n, z2n, v1, v2, v3]; rfl, HB1.out⟩
              | true =>
                rw [v3] at XN
                by_cases z3 : (dn : Int) ≤ 2048
                · have z3n : decide (dn ≤ 2048) = true := by simp; omega
                  cases v4 : txsP 32 names 255 with
                  | false =>
                    rw [v4] at XS
                    go_wp2_with fail
                    refine XH.out.mono ?_
                    rintro e9 w9 ⟨rfl, rfl⟩
                    go_wp2_with fail
                    refine XI.out.mono ?_
                    rintro e9 w9 ⟨rfl, rfl⟩
                    go_wp2_with fail
                    refine XN.out.mono ?_
                    rintro e9 w9 ⟨rfl, rfl⟩
                    go_wp2_with fail
                    refine XS.out.mono ?_
                    rintro e9 w9 ⟨rfl, rfl⟩
                    go_wp2_with fail
                    go_ret
                    exact ⟨by rw [HV.out, z1n, z2n, v1, v2, v3, z3n, v4]; rfl, HB1.out⟩
                  | true =>
                    rw [v4] at XS
                    go_wp2_with fail
                    refine XH.out.mono ?_
                    rintro e9 w9 ⟨rfl, rfl⟩
                    go_wp2_with fail
                    refine XI.out.mono ?_
                    rintro e9 w9 ⟨rfl, rfl⟩
                    go_wp2_with fail
                    refine XN.out.mono ?_
                    rintro e9 w9 ⟨rfl, rfl⟩
                    go_wp2_with fail
                    refine XS.out.mono ?_
                    rintro e9 w9 ⟨rfl, rfl⟩
                    go_wp2_with fail
                    go_ret
                    exact ⟨by rw [HV.out, z1n, z2n, v1, v2, v3, z3n, v4]; rfl, HB1.out⟩
                · have z3n : decide (dn ≤ 2048) = false := by simp; omega
                  go_wp2_with fail
                  refine XH.out.mono ?_
                  rintro e9 w9 ⟨rfl, rfl⟩
                  go_wp2_with fail
                  refine XI.out.mono ?_
                  rintro e9 w9 ⟨rfl, rfl⟩
                  go_wp2_with fail
                  refine XN.out.mono ?_
                  rintro e9 w9 ⟨rfl, rfl⟩
                  go_wp2_with fail
                  go_ret
                  exact ⟨by rw [HV.out, z1n, z2n, v1, v2, v3, z3n]; rfl, HB1.out⟩
        · have z2n : decide (err ≤ 255) = false := decide_eq_false z2
          go_wp2_with fail
          go_ret
          exact ⟨by rw [HV.out, z1n, z2n]; rfl, HB1.out⟩
      · have z1n : decide (0 ≤ err) = false := decide_eq_false z1
        go_wp2_with fail
        go_ret
        exact ⟨by rw [HV.out, z1n]; rfl, HB1.out⟩
set_option maxRecDepth 100000 in
set_option maxHeartbeats 40000000 in
theorem rfit_sNHI (op err h h2 n : Int) (names : List LB) (D A : Option Addr) (dn dc an ac : Nat) (w : World) (h1 : 1 ≤ op) (h2p : op ≤ 16) (hz : (err == 0) = true) (hlf : repliesP op = [78, 72, 73]) (b : Bool) (hA : Reads w w.heap.size 1 A an (svs names)) (hn : an ≤ 100000)
    (hb0 : b = (!badV ([78, 72, 73] : LB) h h2 n dn an && (decide (0 ≤ err) && decide (err ≤ 255) && wideP h && wideP h2 && wideP n && decide (dn ≤ 2048) && txsP 32 names 255))) :
    Calls Try.prog 80 #[.int .i64 op, .agg #[.int .i64 err, .int .i64 h, .int .i64 h2, .int .i64 n, .slice D dn dc, .slice A an ac]] w fun e w' => e = .returned (.bool b) ∧ Below w.heap.size w w' := by
  have HV := hide hb0
  have HRA := hide hA
  clear hA hb0
  have hb := (Below.refl w.heap.size w).alloc (Nat.le_refl _) (.cells #[.int .i64 err, .int .i64 h, .int .i64 h2, .int .i64 n, .slice D dn dc, .slice A an ac] 43)
  have hk := Blk.new w 43 #[.int .i64 err, .int .i64 h, .int .i64 h2, .int .i64 n, .slice D dn dc, .slice A an ac]
  have HB := hide hb
  have HK := hide hk
  have hl := hk.lt
  have XR := hide (fun W => replies_any op W h1 h2p)
  simp only [hlf] at XR
  clear hb
  have hz2 : (err != 0) = false := by rw [bne, hz]; rfl
  obtain ⟨x0, x1, x2, x3, x4, x5⟩ := blk6 hk
  clear hk
  go_enter Try.func80, Try.ntmps80
  go_wp2_with fail
  refine (XR.out _).mono ?_
  rintro e w1 ⟨rfl, hb1⟩
  have HB1 := hide (below_more HB.out (Nat.le_refl _) hb1)
  have HK1 := hide (HK.out.below hb1 hl)
  clear hb1 x0 x1 x2 x3 x4 x5 HB HK XR hl
  have hl := HK1.out.lt
  obtain ⟨x0, x1, x2, x3, x4, x5⟩ := blk6 HK1.out
  have X72 : Hid (Calls Try.prog 70 #[.string ⟨#[78, 72, 73]⟩, .int .u8 72] w1 fun e w' => e = .returned (.bool true) ∧ w1 = w') := hide (has_any [78, 72, 73] 72 w1 (by decide))
  have X73 : Hid (Calls Try.prog 70 #[.string ⟨#[78, 72, 73]⟩, .int .u8 73] w1 fun e w' => e = .returned (.bool true) ∧ w1 = w') := hide (has_any [78, 72, 73] 73 w1 (by decide))
  have X78 : Hid (Calls Try.prog 70 #[.string ⟨#[78, 72, 73]⟩, .int .u8 78] w1 fun e w' => e = .returned (.bool true) ∧ w1 = w') := hide (has_any [78, 72, 73] 78 w1 (by decide))
  have X68 : Hid (Calls Try.prog 70 #[.string ⟨#[78, 72, 73]⟩, .int .u8 68] w1 fun e w' => e = .returned (.bool false) ∧ w1 = w') := hide (has_any [78, 72, 73] 68 w1 (by decide))
  have X83 : Hid (Calls Try.prog 70 #[.string ⟨#[78, 72, 73]⟩, .int .u8 83] w1 fun e w' => e = .returned (.bool false) ∧ w1 = w') := hide (has_any [78, 72, 73] 83 w1 (by decide))
  have HBAD : Hid (badV [78, 72, 73] h h2 n dn an = ((false && (h != 0)) || (false && (h2 != 0)) || (false && (n != 0)) || (true && decide (0 < dn)) || (true && decide (0 < an)))) := hide rfl
  go_upto_region 4 with (fail)
  go_cut [60, 61, 62, 63, 64, 65, 66, 67, 68, 69, 70, 71, 72, 73, 74, 75, 76, 77, 78, 79, 80, 81, 82, 83, 84, 85, 86, 87, 88, 89, 90, 91, 92, 93, 94] (fun u60 u61 u62 u63 u64 u65 u66 u67 u68 u69 u70 u71 u72 u73 u74 u75 u76 u77 u78 u79 u80 u81 u82 u83 u84 u85 u86 u87 u88 u89 u90 u91 u92 u93 u94 wx => u60 = .bool (badV [78, 72, 73] h h2 n dn an) ∧ wx = w1 ∧ u61 = undef ∧ u62 = undef ∧ u63 = undef ∧ u64 = undef ∧ u65 = undef ∧ u66 = undef ∧ u67 = undef ∧ u68 = undef ∧ u69 = undef ∧ u70 = undef ∧ u71 = undef ∧ u72 = undef ∧ u73 = undef ∧ u74 = undef ∧ u75 = undef ∧ u76 = undef ∧ u77 = undef ∧ u78 = undef ∧ u79 = undef ∧ u80 = undef ∧ u81 = undef ∧ u82 = undef ∧ u83 = undef ∧ u84 = undef ∧ u85 = undef ∧ u86 = undef ∧ u87 = undef ∧ u88 = undef ∧ u89 = undef ∧ u90 = undef ∧ u91 = undef ∧ u92 = undef ∧ u93 = undef ∧ u94 = undef)
  case first =>
    go_wp2_with fail
    with_reducible refine X72.out.mono ?_
    rintro e9 w9 ⟨rfl, rfl⟩
    go_wp2_with fail
    with_reducible refine X73.out.mono ?_
    rintro e9 w9 ⟨rfl, rfl⟩
    go_wp2_with fail
    with_reducible refine X78.out.mono ?_
    rintro e9 w9 ⟨rfl, rfl⟩
    go_wp2_with fail
    with_reducible refine X68.out.mono ?_
    rintro e9 w9 ⟨rfl, rfl⟩
    by_cases hq3 : (0 : Int) < (dn : Int)
    · have hr3 : decide (0 < dn) = true := by simp; omega
      go_wp2_with fail
      go_meet
      exact ⟨by rw [HBAD.out, hr3]; rfl, rfl, rfl, rfl, rfl, rfl, rfl, rfl, rfl, rfl, rfl, rfl, rfl, rfl, rfl, rfl, rfl, rfl, rfl, rfl, rfl, rfl, rfl, rfl, rfl, rfl, rfl, rfl, rfl, rfl, rfl, rfl, rfl, rfl, rfl, rfl⟩
    · have hr3 : decide (0 < dn) = false := by simp; omega
      go_wp2_with fail
      with_reducible refine X83.out.mono ?_
      rintro e9 w9 ⟨rfl, rfl⟩
      by_cases hq4 : (0 : Int) < (an : Int)
      · have hr4 : decide (0 < an) = true := by simp; omega
        go_wp2_with fail
        go_meet
        exact ⟨by rw [HBAD.out, hr3, hr4]; rfl, rfl, rfl, rfl, rfl, rfl, rfl, rfl, rfl, rfl, rfl, rfl, rfl, rfl, rfl, rfl, rfl, rfl, rfl, rfl, rfl, rfl, rfl, rfl, rfl, rfl, rfl, rfl, rfl, rfl, rfl, rfl, rfl, rfl, rfl, rfl⟩
      · have hr4 : decide (0 < an) = false := by simp; omega
        go_wp2_with fail
        go_meet
        exact ⟨by rw [HBAD.out, hr3, hr4]; rfl, rfl, rfl, rfl, rfl, rfl, rfl, rfl, rfl, rfl, rfl, rfl, rfl, rfl, rfl, rfl, rfl, rfl, rfl, rfl, rfl, rfl, rfl, rfl, rfl, rfl, rfl, rfl, rfl, rfl, rfl, rfl, rfl, rfl, rfl, rfl⟩
  case rest =>
    obtain ⟨rfl, rfl, rfl, rfl, rfl, rfl, rfl, rfl, rfl, rfl, rfl, rfl, rfl, rfl, rfl, rfl, rfl, rfl, rfl, rfl, rfl, rfl, rfl, rfl, rfl, rfl, rfl, rfl, rfl, rfl, rfl, rfl, rfl, rfl, rfl, rfl⟩ := hcut
    have HRA1 := hide ((HRA.out.below HB1.out).more HB1.out.size)
    clear HRA HBAD X72 X73 X78 X68 X83
    generalize badV [78, 72, 73] h h2 n dn an = U at *
    cases U with
    | true =>
      go_wp2_with fail
      go_ret
      exact ⟨by rw [HV.out]; rfl, HB1.out⟩
    | false =>
      have XH := hide (rwide_any h wc)
      have XI := hide (rwide_any h2 wc)
      have XN := hide (rwide_any n wc)
      have XS := hide (rshort_any names A an ac wc HRA1.out hn)
      by_cases z1 : 0 ≤ err
      · have z1n : decide (0 ≤ err) = true := decide_eq_true z1
        by_cases z2 : err ≤ 255
        · have z2n : decide (err ≤ 255) = true := decide_eq_true z2
          cases v1 : wideP h with
          | false =>
            rw [v1] at XH
            go_wp2_with fail
            refine XH.out.mono ?_
            rintro e9 w9 ⟨rfl, rfl⟩
            go_wp2_with fail
            go_ret
            exact ⟨by rw [HV.out, z1n, z2n, v1]; rfl, HB1.out⟩
          | true =>
            rw [v1] at XH
            cases v2 : wideP h2 with
            | false =>
              rw [v2] at XI
              go_wp2_with fail
              refine XH.out.mono ?_
              rintro e9 w9 ⟨rfl, rfl⟩
              go_wp2_with fail
              refine XI.out.mono ?_
              rintro e9 w9 ⟨rfl, rfl⟩
              go_wp2_with fail
              go_ret
              exact ⟨by rw [HV.out, z1n, z2n, v1, v2]; rfl, HB1.out⟩
            | true =>
              rw [v2] at XI
              cases v3 : wideP n with
              | false =>
                rw [v3] at XN
                go_wp2_with fail
                refine XH.out.mono ?_
                rintro e9 w9 ⟨rfl, rfl⟩
                go_wp2_with fail
                refine XI.out.mono ?_
                rintro e9 w9 ⟨rfl, rfl⟩
                go_wp2_with fail
                refine XN.out.mono ?_
                rintro e9 w9 ⟨rfl, rfl⟩
                go_wp2_with fail
                go_ret
                exact ⟨by rw [HV.out, z1n, z2n, v1, v2, v3]; rfl, HB1.out⟩
              | true =>
                rw [v3] at XN
                by_cases z3 : (dn : Int) ≤ 2048
                · have z3n : decide (dn ≤ 2048) = true := by simp; omega
                  cases v4 : txsP 32 names 255 with
                  | false =>
                    rw [v4] at XS
                    go_wp2_with fail
                    refine XH.out.mono ?_
                    rintro e9 w9 ⟨rfl, rfl⟩
                    go_wp2_with fail
                    refine XI.out.mono ?_
                    rintro e9 w9 ⟨rfl, rfl⟩
                    go_wp2_with fail
                    refine XN.out.mono ?_
                    rintro e9 w9 ⟨rfl, rfl⟩
                    go_wp2_with fail
                    refine XS.out.mono ?_
                    rintro e9 w9 ⟨rfl, rfl⟩
                    go_wp2_with fail
                    go_ret
                    exact ⟨by rw [HV.out, z1n, z2n, v1, v2, v3, z3n, v4]; rfl, HB1.out⟩
                  | true =>
                    rw [v4] at XS
                    go_wp2_with fail
                    refine XH.out.mono ?_
                    rintro e9 w9 ⟨rfl, rfl⟩
                    go_wp2_with fail
                    refine XI.out.mono ?_
                    rintro e9 w9 ⟨rfl, rfl⟩
                    go_wp2_with fail
                    refine XN.out.mono ?_
                    rintro e9 w9 ⟨rfl, rfl⟩
                    go_wp2_with fail
                    refine XS.out.mono ?_
                    rintro e9 w9 ⟨rfl, rfl⟩
                    go_wp2_with fail
                    go_ret
                    exact ⟨by rw [HV.out, z1n, z2n, v1, v2, v3, z3n, v4]; rfl, HB1.out⟩
                · have z3n : decide (dn ≤ 2048) = false := by simp; omega
                  go_wp2_with fail
                  refine XH.out.mono ?_
                  rintro e9 w9 ⟨rfl, rfl⟩
                  go_wp2_with fail
                  refine XI.out.mono ?_
                  rintro e9 w9 ⟨rfl, rfl⟩
                  go_wp2_with fail
                  refine XN.out.mono ?_
                  rintro e9 w9 ⟨rfl, rfl⟩
                  go_wp2_with fail
                  go_ret
                  exact ⟨by rw [HV.out, z1n, z2n, v1, v2, v3, z3n]; rfl, HB1.out⟩
        · have z2n : decide (err ≤ 255) = false := decide_eq_false z2
          go_wp2_with fail
          go_ret
          exact ⟨by rw [HV.out, z1n, z2n]; rfl, HB1.out⟩
      · have z1n : decide (0 ≤ err) = false := decide_eq_false z1
        go_wp2_with fail
        go_ret
        exact ⟨by rw [HV.out, z1n]; rfl, HB1.out⟩
set_option maxRecDepth 100000 in
set_option maxHeartbeats 40000000 in
theorem rfit_sS (op err h h2 n : Int) (names : List LB) (D A : Option Addr) (dn dc an ac : Nat) (w : World) (h1 : 1 ≤ op) (h2p : op ≤ 16) (hz : (err == 0) = true) (hlf : repliesP op = [83]) (b : Bool) (hA : Reads w w.heap.size 1 A an (svs names)) (hn : an ≤ 100000)
    (hb0 : b = (!badV ([83] : LB) h h2 n dn an && (decide (0 ≤ err) && decide (err ≤ 255) && wideP h && wideP h2 && wideP n && decide (dn ≤ 2048) && txsP 32 names 255))) :
    Calls Try.prog 80 #[.int .i64 op, .agg #[.int .i64 err, .int .i64 h, .int .i64 h2, .int .i64 n, .slice D dn dc, .slice A an ac]] w fun e w' => e = .returned (.bool b) ∧ Below w.heap.size w w' := by
  have HV := hide hb0
  have HRA := hide hA
  clear hA hb0
  have hb := (Below.refl w.heap.size w).alloc (Nat.le_refl _) (.cells #[.int .i64 err, .int .i64 h, .int .i64 h2, .int .i64 n, .slice D dn dc, .slice A an ac] 43)
  have hk := Blk.new w 43 #[.int .i64 err, .int .i64 h, .int .i64 h2, .int .i64 n, .slice D dn dc, .slice A an ac]
  have HB := hide hb
  have HK := hide hk
  have hl := hk.lt
  have XR := hide (fun W => replies_any op W h1 h2p)
  simp only [hlf] at XR
  clear hb
  have hz2 : (err != 0) = false := by rw [bne, hz]; rfl
  obtain ⟨x0, x1, x2, x3, x4, x5⟩ := blk6 hk
  clear hk
  go_enter Try.func80, Try.ntmps80
  go_wp2_with fail
  refine (XR.out _).mono ?_
  rintro e w1 ⟨rfl, hb1⟩
  have HB1 := hide (below_more HB.out (Nat.le_refl _) hb1)
  have HK1 := hide (HK.out.below hb1 hl)
  clear hb1 x0 x1 x2 x3 x4 x5 HB HK XR hl
  have hl := HK1.out.lt
  obtain ⟨x0, x1, x2, x3, x4, x5⟩ := blk6 HK1.out
  have X72 : Hid (Calls Try.prog 70 #[.string ⟨#[83]⟩, .int .u8 72] w1 fun e w' => e = .returned (.bool false) ∧ w1 = w') := hide (has_any [83] 72 w1 (by decide))
  have X73 : Hid (Calls Try.prog 70 #[.string ⟨#[83]⟩, .int .u8 73] w1 fun e w' => e = .returned (.bool false) ∧ w1 = w') := hide (has_any [83] 73 w1 (by decide))
  have X78 : Hid (Calls Try.prog 70 #[.string ⟨#[83]⟩, .int .u8 78] w1 fun e w' => e = .returned (.bool false) ∧ w1 = w') := hide (has_any [83] 78 w1 (by decide))
  have X68 : Hid (Calls Try.prog 70 #[.string ⟨#[83]⟩, .int .u8 68] w1 fun e w' => e = .returned (.bool false) ∧ w1 = w') := hide (has_any [83] 68 w1 (by decide))
  have X83 : Hid (Calls Try.prog 70 #[.string ⟨#[83]⟩, .int .u8 83] w1 fun e w' => e = .returned (.bool true) ∧ w1 = w') := hide (has_any [83] 83 w1 (by decide))
  have HBAD : Hid (badV [83] h h2 n dn an = ((true && (h != 0)) || (true && (h2 != 0)) || (true && (n != 0)) || (true && decide (0 < dn)) || (false && decide (0 < an)))) := hide rfl
  go_upto_region 4 with (fail)
  go_cut [60, 61, 62, 63, 64, 65, 66, 67, 68, 69, 70, 71, 72, 73, 74, 75, 76, 77, 78, 79, 80, 81, 82, 83, 84, 85, 86, 87, 88, 89, 90, 91, 92, 93, 94] (fun u60 u61 u62 u63 u64 u65 u66 u67 u68 u69 u70 u71 u72 u73 u74 u75 u76 u77 u78 u79 u80 u81 u82 u83 u84 u85 u86 u87 u88 u89 u90 u91 u92 u93 u94 wx => u60 = .bool (badV [83] h h2 n dn an) ∧ wx = w1 ∧ u61 = undef ∧ u62 = undef ∧ u63 = undef ∧ u64 = undef ∧ u65 = undef ∧ u66 = undef ∧ u67 = undef ∧ u68 = undef ∧ u69 = undef ∧ u70 = undef ∧ u71 = undef ∧ u72 = undef ∧ u73 = undef ∧ u74 = undef ∧ u75 = undef ∧ u76 = undef ∧ u77 = undef ∧ u78 = undef ∧ u79 = undef ∧ u80 = undef ∧ u81 = undef ∧ u82 = undef ∧ u83 = undef ∧ u84 = undef ∧ u85 = undef ∧ u86 = undef ∧ u87 = undef ∧ u88 = undef ∧ u89 = undef ∧ u90 = undef ∧ u91 = undef ∧ u92 = undef ∧ u93 = undef ∧ u94 = undef)
  case first =>
    go_wp2_with fail
    with_reducible refine X72.out.mono ?_
    rintro e9 w9 ⟨rfl, rfl⟩
    cases hq0 : (h != 0) with
    | true =>
      go_wp2_with fail
      go_meet
      exact ⟨by rw [HBAD.out, hq0]; rfl, rfl, rfl, rfl, rfl, rfl, rfl, rfl, rfl, rfl, rfl, rfl, rfl, rfl, rfl, rfl, rfl, rfl, rfl, rfl, rfl, rfl, rfl, rfl, rfl, rfl, rfl, rfl, rfl, rfl, rfl, rfl, rfl, rfl, rfl, rfl⟩
    | false =>
      go_wp2_with fail
      with_reducible refine X73.out.mono ?_
      rintro e9 w9 ⟨rfl, rfl⟩
      cases hq1 : (h2 != 0) with
      | true =>
        go_wp2_with fail
        go_meet
        exact ⟨by rw [HBAD.out, hq0, hq1]; rfl, rfl, rfl, rfl, rfl, rfl, rfl, rfl, rfl, rfl, rfl, rfl, rfl, rfl, rfl, rfl, rfl, rfl, rfl, rfl, rfl, rfl, rfl, rfl, rfl, rfl, rfl, rfl, rfl, rfl, rfl, rfl, rfl, rfl, rfl, rfl⟩
      | false =>
        go_wp2_with fail
        with_reducible refine X78.out.mono ?_
        rintro e9 w9 ⟨rfl, rfl⟩
        cases hq2 : (n != 0) with
        | true =>
          go_wp2_with fail
          go_meet
          exact ⟨by rw [HBAD.out, hq0, hq1, hq2]; rfl, rfl, rfl, rfl, rfl, rfl, rfl, rfl, rfl, rfl, rfl, rfl, rfl, rfl, rfl, rfl, rfl, rfl, rfl, rfl, rfl, rfl, rfl, rfl, rfl, rfl, rfl, rfl, rfl, rfl, rfl, rfl, rfl, rfl, rfl, rfl⟩
        | false =>
          go_wp2_with fail
          with_reducible refine X68.out.mono ?_
          rintro e9 w9 ⟨rfl, rfl⟩
          by_cases hq3 : (0 : Int) < (dn : Int)
          · have hr3 : decide (0 < dn) = true := by simp; omega
            go_wp2_with fail
            go_meet
            exact ⟨by rw [HBAD.out, hq0, hq1, hq2, hr3]; rfl, rfl, rfl, rfl, rfl, rfl, rfl, rfl, rfl, rfl, rfl, rfl, rfl, rfl, rfl, rfl, rfl, rfl, rfl, rfl, rfl, rfl, rfl, rfl, rfl, rfl, rfl, rfl, rfl, rfl, rfl, rfl, rfl, rfl, rfl, rfl⟩
          · have hr3 : decide (0 < dn) = false := by simp; omega
            go_wp2_with fail
            with_reducible refine X83.out.mono ?_
            rintro e9 w9 ⟨rfl, rfl⟩
            go_wp2_with fail
            go_meet
            exact ⟨by rw [HBAD.out, hq0, hq1, hq2, hr3]; rfl, rfl, rfl, rfl, rfl, rfl, rfl, rfl, rfl, rfl, rfl, rfl, rfl, rfl, rfl, rfl, rfl, rfl, rfl, rfl, rfl, rfl, rfl, rfl, rfl, rfl, rfl, rfl, rfl, rfl, rfl, rfl, rfl, rfl, rfl, rfl⟩
  case rest =>
    obtain ⟨rfl, rfl, rfl, rfl, rfl, rfl, rfl, rfl, rfl, rfl, rfl, rfl, rfl, rfl, rfl, rfl, rfl, rfl, rfl, rfl, rfl, rfl, rfl, rfl, rfl, rfl, rfl, rfl, rfl, rfl, rfl, rfl, rfl, rfl, rfl, rfl⟩ := hcut
    have HRA1 := hide ((HRA.out.below HB1.out).more HB1.out.size)
    clear HRA HBAD X72 X73 X78 X68 X83
    generalize badV [83] h h2 n dn an = U at *
    cases U with
    | true =>
      go_wp2_with fail
      go_ret
      exact ⟨by rw [HV.out]; rfl, HB1.out⟩
    | false =>
      have XH := hide (rwide_any h wc)
      have XI := hide (rwide_any h2 wc)
      have XN := hide (rwide_any n wc)
      have XS := hide (rshort_any names A an ac wc HRA1.out hn)
      by_cases z1 : 0 ≤ err
      · have z1n : decide (0 ≤ err) = true := decide_eq_true z1
        by_cases z2 : err ≤ 255
        · have z2n : decide (err ≤ 255) = true := decide_eq_true z2
          cases v1 : wideP h with
          | false =>
            rw [v1] at XH
            go_wp2_with fail
            refine XH.out.mono ?_
            rintro e9 w9 ⟨rfl, rfl⟩
            go_wp2_with fail
            go_ret
            exact ⟨by rw [HV.out, z1n, z2n, v1]; rfl, HB1.out⟩
          | true =>
            rw [v1] at XH
            cases v2 : wideP h2 with
            | false =>
              rw [v2] at XI
              go_wp2_with fail
              refine XH.out.mono ?_
              rintro e9 w9 ⟨rfl, rfl⟩
              go_wp2_with fail
              refine XI.out.mono ?_
              rintro e9 w9 ⟨rfl, rfl⟩
              go_wp2_with fail
              go_ret
              exact ⟨by rw [HV.out, z1n, z2n, v1, v2]; rfl, HB1.out⟩
            | true =>
              rw [v2] at XI
              cases v3 : wideP n with
              | false =>
                rw [v3] at XN
                go_wp2_with fail
                refine XH.out.mono ?_
                rintro e9 w9 ⟨rfl, rfl⟩
                go_wp2_with fail
                refine XI.out.mono ?_
                rintro e9 w9 ⟨rfl, rfl⟩
                go_wp2_with fail
                refine XN.out.mono ?_
                rintro e9 w9 ⟨rfl, rfl⟩
                go_wp2_with fail
                go_ret
                exact ⟨by rw [HV.out, z1n, z2n, v1, v2, v3]; rfl, HB1.out⟩
              | true =>
                rw [v3] at XN
                by_cases z3 : (dn : Int) ≤ 2048
                · have z3n : decide (dn ≤ 2048) = true := by simp; omega
                  cases v4 : txsP 32 names 255 with
                  | false =>
                    rw [v4] at XS
                    go_wp2_with fail
                    refine XH.out.mono ?_
                    rintro e9 w9 ⟨rfl, rfl⟩
                    go_wp2_with fail
                    refine XI.out.mono ?_
                    rintro e9 w9 ⟨rfl, rfl⟩
                    go_wp2_with fail
                    refine XN.out.mono ?_
                    rintro e9 w9 ⟨rfl, rfl⟩
                    go_wp2_with fail
                    refine XS.out.mono ?_
                    rintro e9 w9 ⟨rfl, rfl⟩
                    go_wp2_with fail
                    go_ret
                    exact ⟨by rw [HV.out, z1n, z2n, v1, v2, v3, z3n, v4]; rfl, HB1.out⟩
                  | true =>
                    rw [v4] at XS
                    go_wp2_with fail
                    refine XH.out.mono ?_
                    rintro e9 w9 ⟨rfl, rfl⟩
                    go_wp2_with fail
                    refine XI.out.mono ?_
                    rintro e9 w9 ⟨rfl, rfl⟩
                    go_wp2_with fail
                    refine XN.out.mono ?_
                    rintro e9 w9 ⟨rfl, rfl⟩
                    go_wp2_with fail
                    refine XS.out.mono ?_
                    rintro e9 w9 ⟨rfl, rfl⟩
                    go_wp2_with fail
                    go_ret
                    exact ⟨by rw [HV.out, z1n, z2n, v1, v2, v3, z3n, v4]; rfl, HB1.out⟩
                · have z3n : decide (dn ≤ 2048) = false := by simp; omega
                  go_wp2_with fail
                  refine XH.out.mono ?_
                  rintro e9 w9 ⟨rfl, rfl⟩
                  go_wp2_with fail
                  refine XI.out.mono ?_
                  rintro e9 w9 ⟨rfl, rfl⟩
                  go_wp2_with fail
                  refine XN.out.mono ?_
                  rintro e9 w9 ⟨rfl, rfl⟩
                  go_wp2_with fail
                  go_ret
                  exact ⟨by rw [HV.out, z1n, z2n, v1, v2, v3, z3n]; rfl, HB1.out⟩
        · have z2n : decide (err ≤ 255) = false := decide_eq_false z2
          go_wp2_with fail
          go_ret
          exact ⟨by rw [HV.out, z1n, z2n]; rfl, HB1.out⟩
      · have z1n : decide (0 ≤ err) = false := decide_eq_false z1
        go_wp2_with fail
        go_ret
        exact ⟨by rw [HV.out, z1n]; rfl, HB1.out⟩
end Go.Proofs.Ytedacfjkbfgikaa
