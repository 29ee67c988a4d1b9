/- The document's Check of a request: some of the operations. -/
import Derived.Test.YtedacfjkbfgikaaRfD0
namespace Go.Proofs.Ytedacfjkbfgikaa
open Go.RowKit
set_option linter.unusedVariables false
set_option maxRecDepth 100000 in
set_option maxHeartbeats 40000000 in
theorem rchkx4 (op h n fl : Int) (p p2 : LB) (fds : List Int) (args env : List LB) (D A E F : Option Addr) (dn dc an ac en ec fn fc : Nat) (w : World) (h1 : 1 ≤ op) (h2 : op ≤ 16) (hlf : fieldsP op = []) (b : Bool) (hA : Reads w w.heap.size 1 A an (svs args)) (hE : Reads w w.heap.size 1 E en (svs env)) (hF : Reads w w.heap.size 1 F fn (ivs fds)) (hn : an ≤ 1000 ∧ en ≤ 1000 ∧ fn ≤ 100000)
    (hb0 : b = ((!badU ([] : LB) h n fl p p2 dn an en && !badT (hasC 84 ([] : LB)) fn) && fds.all wideP && (decide (p.length ≤ 256) && decide (p2.length ≤ 256) && wideP h && wideP n && wideP fl && decide (dn ≤ 2048) && txsP 256 args 16 && txsP 256 env 32))) :
    Calls Try.prog 16 #[.agg #[.int .i64 op, .string ⟨p.toArray⟩, .string ⟨p2.toArray⟩, .int .i64 h, .int .i64 n, .int .i64 fl, .slice D dn dc, .slice A an ac, .slice E en ec, .slice F fn fc]] w fun e w' => e = .returned (.bool b) ∧ Below w.heap.size w w' := by
  have HV := hide hb0
  have HRA := hide hA
  have HRE := hide hE
  have HRF := hide hF
  clear hA hE hF hb0
  have hb := (Below.refl w.heap.size w).alloc (Nat.le_refl _) (.cells #[.int .i64 op, .string ⟨p.toArray⟩, .string ⟨p2.toArray⟩, .int .i64 h, .int .i64 n, .int .i64 fl, .slice D dn dc, .slice A an ac, .slice E en ec, .slice F fn fc] 26)
  have hk := Blk.new w 26 #[.int .i64 op, .string ⟨p.toArray⟩, .string ⟨p2.toArray⟩, .int .i64 h, .int .i64 n, .int .i64 fl, .slice D dn dc, .slice A an ac, .slice E en ec, .slice F fn fc]
  have HB := hide hb
  have HK := hide hk
  have hl := hk.lt
  have XF := hide (fun W => fields_any op W)
  simp only [hlf] at XF
  clear hb
  obtain ⟨x0, x1, x2, x3, x4, x5, x6, x7, x8, x9⟩ := blk10 hk
  clear hk
  have o1 : ¬ op < 1 := by omega
  have o2 : ¬ 16 < op := by omega
  go_enter Try.func16, Try.ntmps16
  go_wp2_with fail
  refine (XF.out _).mono ?_
  rintro e w1 ⟨rfl, hb1⟩
  have HB1 := hide (below_more HB.out (Nat.le_refl _) hb1)
  have HK1 := hide (HK.out.below hb1 hl)
  clear hb1 x0 x1 x2 x3 x4 x5 x6 x7 x8 x9 HB HK XF o1 o2 hl
  have hl := HK1.out.lt
  obtain ⟨x0, x1, x2, x3, x4, x5, x6, x7, x8, x9⟩ := blk10 HK1.out
  go_upto_region 4 with (fail)
  go_cut [96, 97, 98, 99, 100, 101, 102, 103, 104, 105, 106, 107, 108, 109, 110, 111, 112, 113, 114, 115, 116, 117, 118, 119, 120, 121, 122, 123, 124, 125, 126, 127, 128, 129, 130, 131, 132, 133, 134, 135, 136, 137, 138, 139, 140, 141, 142, 143, 144, 145, 146, 147, 148, 149, 150, 151, 152, 153, 154, 155, 156, 157, 158, 159, 160, 161, 162, 163, 164, 165, 166, 167, 168, 169, 170] (fun u96 u97 u98 u99 u100 u101 u102 u103 u104 u105 u106 u107 u108 u109 u110 u111 u112 u113 u114 u115 u116 u117 u118 u119 u120 u121 u122 u123 u124 u125 u126 u127 u128 u129 u130 u131 u132 u133 u134 u135 u136 u137 u138 u139 u140 u141 u142 u143 u144 u145 u146 u147 u148 u149 u150 u151 u152 u153 u154 u155 u156 u157 u158 u159 u160 u161 u162 u163 u164 u165 u166 u167 u168 u169 u170 wx => u96 = .bool (badU ([] : LB) h n fl p p2 dn an en) ∧ wx = w1 ∧ u97 = undef ∧ u98 = undef ∧ u99 = undef ∧ u100 = undef ∧ u101 = undef ∧ u102 = undef ∧ u103 = undef ∧ u104 = undef ∧ u105 = undef ∧ u106 = undef ∧ u107 = undef ∧ u108 = undef ∧ u109 = undef ∧ u110 = undef ∧ u111 = undef ∧ u112 = undef ∧ u113 = undef ∧ u114 = undef ∧ u115 = undef ∧ u116 = undef ∧ u117 = undef ∧ u118 = undef ∧ u119 = undef ∧ u120 = undef ∧ u121 = undef ∧ u122 = undef ∧ u123 = undef ∧ u124 = undef ∧ u125 = undef ∧ u126 = undef ∧ u127 = undef ∧ u128 = undef ∧ u129 = undef ∧ u130 = undef ∧ u131 = undef ∧ u132 = undef ∧ u133 = undef ∧ u134 = undef ∧ u135 = undef ∧ u136 = undef ∧ u137 = undef ∧ u138 = undef ∧ u139 = undef ∧ u140 = undef ∧ u141 = undef ∧ u142 = undef ∧ u143 = undef ∧ u144 = undef ∧ u145 = undef ∧ u146 = undef ∧ u147 = undef ∧ u148 = undef ∧ u149 = undef ∧ u150 = undef ∧ u151 = undef ∧ u152 = undef ∧ u153 = undef ∧ u154 = undef ∧ u155 = undef ∧ u156 = undef ∧ u157 = undef ∧ u158 = undef ∧ u159 = undef ∧ u160 = undef ∧ u161 = undef ∧ u162 = undef ∧ u163 = undef ∧ u164 = undef ∧ u165 = undef ∧ u166 = undef ∧ u167 = undef ∧ u168 = undef ∧ u169 = undef ∧ u170 = undef)
  case first =>
    go_step
    simp only [List.append_eq, List.cons_append, List.nil_append]
    have HBAD : Hid (badU [] h n fl p p2 dn an en = ((true && !p.isEmpty) || (true && !p2.isEmpty) || (true && (h != 0)) || (true && (n != 0)) || (true && (fl != 0)) || (true && decide (0 < dn)) || (true && decide (0 < an)) || (true && decide (0 < en)))) := hide rfl
    have X80 : Hid (Calls Try.prog 70 #[.string ⟨#[]⟩, .int .u8 80] w1 fun e w' => e = .returned (.bool false) ∧ w1 = w') := hide (has_any [] 80 w1 (by decide))
    have X81 : Hid (Calls Try.prog 70 #[.string ⟨#[]⟩, .int .u8 81] w1 fun e w' => e = .returned (.bool false) ∧ w1 = w') := hide (has_any [] 81 w1 (by decide))
    have X72 : Hid (Calls Try.prog 70 #[.string ⟨#[]⟩, .int .u8 72] w1 fun e w' => e = .returned (.bool false) ∧ w1 = w') := hide (has_any [] 72 w1 (by decide))
    have X78 : Hid (Calls Try.prog 70 #[.string ⟨#[]⟩, .int .u8 78] w1 fun e w' => e = .returned (.bool false) ∧ w1 = w') := hide (has_any [] 78 w1 (by decide))
    have X70 : Hid (Calls Try.prog 70 #[.string ⟨#[]⟩, .int .u8 70] w1 fun e w' => e = .returned (.bool false) ∧ w1 = w') := hide (has_any [] 70 w1 (by decide))
    have X68 : Hid (Calls Try.prog 70 #[.string ⟨#[]⟩, .int .u8 68] w1 fun e w' => e = .returned (.bool false) ∧ w1 = w') := hide (has_any [] 68 w1 (by decide))
    have X65 : Hid (Calls Try.prog 70 #[.string ⟨#[]⟩, .int .u8 65] w1 fun e w' => e = .returned (.bool false) ∧ w1 = w') := hide (has_any [] 65 w1 (by decide))
    have X69 : Hid (Calls Try.prog 70 #[.string ⟨#[]⟩, .int .u8 69] w1 fun e w' => e = .returned (.bool false) ∧ w1 = w') := hide (has_any [] 69 w1 (by decide))
    go_wp2_with fail
    with_reducible refine X80.out.mono ?_
    rintro e9 w9 ⟨rfl, rfl⟩
    cases hq0 : p.isEmpty with
    | false =>
      obtain ⟨e1, e2, e3⟩ := ne_facts hq0
      go_wp2_with fail
      go_meet
      exact ⟨by rw [HBAD.out, hq0]; rfl, rfl, rfl, rfl, rfl, rfl, rfl, rfl, rfl, rfl, rfl, rfl, rfl, rfl, rfl, rfl, rfl, rfl, rfl, rfl, rfl, rfl, rfl, rfl, rfl, rfl, rfl, rfl, rfl, rfl, rfl, rfl, rfl, rfl, rfl, rfl, rfl, rfl, rfl, rfl, rfl, rfl, rfl, rfl, rfl, rfl, rfl, rfl, rfl, rfl, rfl, rfl, rfl, rfl, rfl, rfl, rfl, rfl, rfl, rfl, rfl, rfl, rfl, rfl, rfl, rfl, rfl, rfl, rfl, rfl, rfl, rfl, rfl, rfl, rfl, rfl⟩
    | true =>
      obtain ⟨f0a, f0b⟩ := eq_facts hq0
      go_wp2_with fail
      with_reducible refine X81.out.mono ?_
      rintro e9 w9 ⟨rfl, rfl⟩
      cases hq1 : p2.isEmpty with
      | false =>
        obtain ⟨e1, e2, e3⟩ := ne_facts hq1
        go_wp2_with fail
        go_meet
        exact ⟨by rw [HBAD.out, hq0, hq1]; rfl, rfl, rfl, rfl, rfl, rfl, rfl, rfl, rfl, rfl, rfl, rfl, rfl, rfl, rfl, rfl, rfl, rfl, rfl, rfl, rfl, rfl, rfl, rfl, rfl, rfl, rfl, rfl, rfl, rfl, rfl, rfl, rfl, rfl, rfl, rfl, rfl, rfl, rfl, rfl, rfl, rfl, rfl, rfl, rfl, rfl, rfl, rfl, rfl, rfl, rfl, rfl, rfl, rfl, rfl, rfl, rfl, rfl, rfl, rfl, rfl, rfl, rfl, rfl, rfl, rfl, rfl, rfl, rfl, rfl, rfl, rfl, rfl, rfl, rfl, rfl⟩
      | true =>
        obtain ⟨f1a, f1b⟩ := eq_facts hq1
        go_wp2_with fail
        with_reducible refine X72.out.mono ?_
        rintro e9 w9 ⟨rfl, rfl⟩
        cases hq2 : (h != 0) with
        | true =>
          go_wp2_with fail
          go_meet
          exact ⟨by rw [HBAD.out, hq0, hq1, hq2]; rfl, rfl, rfl, rfl, rfl, rfl, rfl, rfl, rfl, rfl, rfl, rfl, rfl, rfl, rfl, rfl, rfl, rfl, rfl, rfl, rfl, rfl, rfl, rfl, rfl, rfl, rfl, rfl, rfl, rfl, rfl, rfl, rfl, rfl, rfl, rfl, rfl, rfl, rfl, rfl, rfl, rfl, rfl, rfl, rfl, rfl, rfl, rfl, rfl, rfl, rfl, rfl, rfl, rfl, rfl, rfl, rfl, rfl, rfl, rfl, rfl, rfl, rfl, rfl, rfl, rfl, rfl, rfl, rfl, rfl, rfl, rfl, rfl, rfl, rfl, rfl⟩
        | false =>
          go_wp2_with fail
          with_reducible refine X78.out.mono ?_
          rintro e9 w9 ⟨rfl, rfl⟩
          cases hq3 : (n != 0) with
          | true =>
            go_wp2_with fail
            go_meet
            exact ⟨by rw [HBAD.out, hq0, hq1, hq2, hq3]; rfl, rfl, rfl, rfl, rfl, rfl, rfl, rfl, rfl, rfl, rfl, rfl, rfl, rfl, rfl, rfl, rfl, rfl, rfl, rfl, rfl, rfl, rfl, rfl, rfl, rfl, rfl, rfl, rfl, rfl, rfl, rfl, rfl, rfl, rfl, rfl, rfl, rfl, rfl, rfl, rfl, rfl, rfl, rfl, rfl, rfl, rfl, rfl, rfl, rfl, rfl, rfl, rfl, rfl, rfl, rfl, rfl, rfl, rfl, rfl, rfl, rfl, rfl, rfl, rfl, rfl, rfl, rfl, rfl, rfl, rfl, rfl, rfl, rfl, rfl, rfl⟩
          | false =>
            go_wp2_with fail
            with_reducible refine X70.out.mono ?_
            rintro e9 w9 ⟨rfl, rfl⟩
            cases hq4 : (fl != 0) with
            | true =>
              go_wp2_with fail
              go_meet
              exact ⟨by rw [HBAD.out, hq0, hq1, hq2, hq3, hq4]; rfl, rfl, rfl, rfl, rfl, rfl, rfl, rfl, rfl, rfl, rfl, rfl, rfl, rfl, rfl, rfl, rfl, rfl, rfl, rfl, rfl, rfl, rfl, rfl, rfl, rfl, rfl, rfl, rfl, rfl, rfl, rfl, rfl, rfl, rfl, rfl, rfl, rfl, rfl, rfl, rfl, rfl, rfl, rfl, rfl, rfl, rfl, rfl, rfl, rfl, rfl, rfl, rfl, rfl, rfl, rfl, rfl, rfl, rfl, rfl, rfl, rfl, rfl, rfl, rfl, rfl, rfl, rfl, rfl, rfl, rfl, rfl, rfl, rfl, rfl, rfl⟩
            | false =>
              go_wp2_with fail
              with_reducible refine X68.out.mono ?_
              rintro e9 w9 ⟨rfl, rfl⟩
              by_cases hq5 : (0 : Int) < (dn : Int)
              · have hr5 : decide (0 < dn) = true := by simp; omega
                go_wp2_with fail
                go_meet
                exact ⟨by rw [HBAD.out, hq0, hq1, hq2, hq3, hq4, hr5]; rfl, rfl, rfl, rfl, rfl, rfl, rfl, rfl, rfl, rfl, rfl, rfl, rfl, rfl, rfl, rfl, rfl, rfl, rfl, rfl, rfl, rfl, rfl, rfl, rfl, rfl, rfl, rfl, rfl, rfl, rfl, rfl, rfl, rfl, rfl, rfl, rfl, rfl, rfl, rfl, rfl, rfl, rfl, rfl, rfl, rfl, rfl, rfl, rfl, rfl, rfl, rfl, rfl, rfl, rfl, rfl, rfl, rfl, rfl, rfl, rfl, rfl, rfl, rfl, rfl, rfl, rfl, rfl, rfl, rfl, rfl, rfl, rfl, rfl, rfl, rfl⟩
              · have hr5 : decide (0 < dn) = false := by simp; omega
                go_wp2_with fail
                with_reducible refine X65.out.mono ?_
                rintro e9 w9 ⟨rfl, rfl⟩
                by_cases hq6 : (0 : Int) < (an : Int)
                · have hr6 : decide (0 < an) = true := by simp; omega
                  go_wp2_with fail
                  go_meet
                  exact ⟨by rw [HBAD.out, hq0, hq1, hq2, hq3, hq4, hr5, hr6]; rfl, rfl, rfl, rfl, rfl, rfl, rfl, rfl, rfl, rfl, rfl, rfl, rfl, rfl, rfl, rfl, rfl, rfl, rfl, rfl, rfl, rfl, rfl, rfl, rfl, rfl, rfl, rfl, rfl, rfl, rfl, rfl, rfl, rfl, rfl, rfl, rfl, rfl, rfl, rfl, rfl, rfl, rfl, rfl, rfl, rfl, rfl, rfl, rfl, rfl, rfl, rfl, rfl, rfl, rfl, rfl, rfl, rfl, rfl, rfl, rfl, rfl, rfl, rfl, rfl, rfl, rfl, rfl, rfl, rfl, rfl, rfl, rfl, rfl, rfl, rfl⟩
                · have hr6 : decide (0 < an) = false := by simp; omega
                  go_wp2_with fail
                  with_reducible refine X69.out.mono ?_
                  rintro e9 w9 ⟨rfl, rfl⟩
                  by_cases hq7 : (0 : Int) < (en : Int)
                  · have hr7 : decide (0 < en) = true := by simp; omega
                    go_wp2_with fail
                    go_meet
                    exact ⟨by rw [HBAD.out, hq0, hq1, hq2, hq3, hq4, hr5, hr6, hr7]; rfl, rfl, rfl, rfl, rfl, rfl, rfl, rfl, rfl, rfl, rfl, rfl, rfl, rfl, rfl, rfl, rfl, rfl, rfl, rfl, rfl, rfl, rfl, rfl, rfl, rfl, rfl, rfl, rfl, rfl, rfl, rfl, rfl, rfl, rfl, rfl, rfl, rfl, rfl, rfl, rfl, rfl, rfl, rfl, rfl, rfl, rfl, rfl, rfl, rfl, rfl, rfl, rfl, rfl, rfl, rfl, rfl, rfl, rfl, rfl, rfl, rfl, rfl, rfl, rfl, rfl, rfl, rfl, rfl, rfl, rfl, rfl, rfl, rfl, rfl, rfl⟩
                  · have hr7 : decide (0 < en) = false := by simp; omega
                    go_wp2_with fail
                    go_meet
                    exact ⟨by rw [HBAD.out, hq0, hq1, hq2, hq3, hq4, hr5, hr6, hr7]; rfl, rfl, rfl, rfl, rfl, rfl, rfl, rfl, rfl, rfl, rfl, rfl, rfl, rfl, rfl, rfl, rfl, rfl, rfl, rfl, rfl, rfl, rfl, rfl, rfl, rfl, rfl, rfl, rfl, rfl, rfl, rfl, rfl, rfl, rfl, rfl, rfl, rfl, rfl, rfl, rfl, rfl, rfl, rfl, rfl, rfl, rfl, rfl, rfl, rfl, rfl, rfl, rfl, rfl, rfl, rfl, rfl, rfl, rfl, rfl, rfl, rfl, rfl, rfl, rfl, rfl, rfl, rfl, rfl, rfl, rfl, rfl, rfl, rfl, rfl, rfl⟩
  case rest =>
    obtain ⟨rfl, rfl, rfl, rfl, rfl, rfl, rfl, rfl, rfl, rfl, rfl, rfl, rfl, rfl, rfl, rfl, rfl, rfl, rfl, rfl, rfl, rfl, rfl, rfl, rfl, rfl, rfl, rfl, rfl, rfl, rfl, rfl, rfl, rfl, rfl, rfl, rfl, rfl, rfl, rfl, rfl, rfl, rfl, rfl, rfl, rfl, rfl, rfl, rfl, rfl, rfl, rfl, rfl, rfl, rfl, rfl, rfl, rfl, rfl, rfl, rfl, rfl, rfl, rfl, rfl, rfl, rfl, rfl, rfl, rfl, rfl, rfl, rfl, rfl, rfl, rfl⟩ := hcut
    have HL84 : ([] : LB).length ≤ 100000 := by decide
    have XT := hide (fun V => has_any ([] : LB) 84 V HL84)
    have HRA1 := hide ((HRA.out.below HB1.out).more HB1.out.size)
    have HRE1 := hide ((HRE.out.below HB1.out).more HB1.out.size)
    have HRF1 := hide ((HRF.out.below HB1.out).more HB1.out.size)
    have HFL : Hid (fn = fds.length) := hide (ri_len HRF.out)
    clear HRA HRE HRF HL84
    generalize badU ([] : LB) h n fl p p2 dn an en = U at *
    generalize hasC 84 ([] : LB) = T at *
    have XT2 : Hid (∀ V, Calls Try.prog 70 #[.string ⟨#[]⟩, .int .u8 84] V fun e w' => e = .returned (.bool T) ∧ V = w') := XT
    clear XT
    clear h1 h2 hlf
    cases U with
    | true =>
      go_wp2_with fail
      go_ret
      exact ⟨by rw [HV.out]; rfl, HB1.out⟩
    | false =>
      by_cases hT : badT T fn = true
      · go_upto_region 6 with (fail)
        go_cut [115, 116, 117, 118, 119, 120, 121, 122, 123, 124, 125, 126, 127, 128, 129, 130, 131, 132, 133, 134, 135, 136, 137, 138, 139, 140, 141, 142, 143, 144, 145, 146, 147, 148, 149, 150, 151, 152, 153, 154, 155, 156, 157, 158, 159, 160, 161, 162, 163, 164, 165, 166, 167, 168, 169, 170] (fun u115 u116 u117 u118 u119 u120 u121 u122 u123 u124 u125 u126 u127 u128 u129 u130 u131 u132 u133 u134 u135 u136 u137 u138 u139 u140 u141 u142 u143 u144 u145 u146 u147 u148 u149 u150 u151 u152 u153 u154 u155 u156 u157 u158 u159 u160 u161 u162 u163 u164 u165 u166 u167 u168 u169 u170 wx => u115 = .bool true ∧ u116 = undef ∧ u117 = undef ∧ u118 = undef ∧ u119 = undef ∧ u120 = undef ∧ u121 = undef ∧ u122 = undef ∧ u123 = undef ∧ u124 = undef ∧ u125 = undef ∧ u126 = undef ∧ u127 = undef ∧ u128 = undef ∧ u129 = undef ∧ u130 = undef ∧ u131 = undef ∧ u132 = undef ∧ u133 = undef ∧ u134 = undef ∧ u135 = undef ∧ u136 = undef ∧ u137 = undef ∧ u138 = undef ∧ u139 = undef ∧ u140 = undef ∧ u141 = undef ∧ u142 = undef ∧ u143 = undef ∧ u144 = undef ∧ u145 = undef ∧ u146 = undef ∧ u147 = undef ∧ u148 = undef ∧ u149 = undef ∧ u150 = undef ∧ u151 = undef ∧ u152 = undef ∧ u153 = undef ∧ u154 = undef ∧ u155 = undef ∧ u156 = undef ∧ u157 = undef ∧ u158 = undef ∧ u159 = undef ∧ u160 = undef ∧ u161 = undef ∧ u162 = undef ∧ u163 = undef ∧ u164 = undef ∧ u165 = undef ∧ u166 = undef ∧ u167 = undef ∧ u168 = undef ∧ u169 = undef ∧ u170 = undef ∧ Hid (Below w.heap.size w wx))
        case first =>
          by_cases f3 : fn = 3
          · subst f3
            have hTf : T = false := by cases T
                                       · rfl
                                       · exact absurd hT (by decide)
            subst hTf
            go_quiet ((go_at_call 70; first | with_reducible exact quiet_left (XT2.out _) | with_reducible exact quiet_add_left (XT2.out _)))
            go_wp2_with fail
            go_meet
            exact ⟨rfl, rfl, rfl, rfl, rfl, rfl, rfl, rfl, rfl, rfl, rfl, rfl, rfl, rfl, rfl, rfl, rfl, rfl, rfl, rfl, rfl, rfl, rfl, rfl, rfl, rfl, rfl, rfl, rfl, rfl, rfl, rfl, rfl, rfl, rfl, rfl, rfl, rfl, rfl, rfl, rfl, rfl, rfl, rfl, rfl, rfl, rfl, rfl, rfl, rfl, rfl, rfl, rfl, rfl, rfl, rfl, hide (below_drewP HB1.out _)⟩
          · have e3 : ((fn : Int) == 3) = false := by simp; omega
            have e3b : ((fn : Int) != 3) = true := by simp; omega
            cases T with
            | true =>
              go_quiet ((go_at_call 70; first | with_reducible exact quiet_left (XT2.out _) | with_reducible exact quiet_add_left (XT2.out _)))
              go_wp2_with fail
              go_meet
              exact ⟨rfl, rfl, rfl, rfl, rfl, rfl, rfl, rfl, rfl, rfl, rfl, rfl, rfl, rfl, rfl, rfl, rfl, rfl, rfl, rfl, rfl, rfl, rfl, rfl, rfl, rfl, rfl, rfl, rfl, rfl, rfl, rfl, rfl, rfl, rfl, rfl, rfl, rfl, rfl, rfl, rfl, rfl, rfl, rfl, rfl, rfl, rfl, rfl, rfl, rfl, rfl, rfl, rfl, rfl, rfl, rfl, hide (below_drewP HB1.out _)⟩
            | false =>
              have f0 : ¬ fn = 0 := by
                intro f0
                subst f0
                exact absurd hT (by decide)
              have e0 : ((fn : Int) == 0) = false := by simp; omega
              have e0b : ((fn : Int) != 0) = true := by simp; omega
              go_quiet ((go_at_call 70; first | with_reducible exact quiet_left (XT2.out _) | with_reducible exact quiet_add_left (XT2.out _)))
              go_wp2_with fail
              go_meet
              exact ⟨rfl, rfl, rfl, rfl, rfl, rfl, rfl, rfl, rfl, rfl, rfl, rfl, rfl, rfl, rfl, rfl, rfl, rfl, rfl, rfl, rfl, rfl, rfl, rfl, rfl, rfl, rfl, rfl, rfl, rfl, rfl, rfl, rfl, rfl, rfl, rfl, rfl, rfl, rfl, rfl, rfl, rfl, rfl, rfl, rfl, rfl, rfl, rfl, rfl, rfl, rfl, rfl, rfl, rfl, rfl, rfl, hide (below_drewP HB1.out _)⟩
        case rest =>
          obtain ⟨rfl, rfl, rfl, rfl, rfl, rfl, rfl, rfl, rfl, rfl, rfl, rfl, rfl, rfl, rfl, rfl, rfl, rfl, rfl, rfl, rfl, rfl, rfl, rfl, rfl, rfl, rfl, rfl, rfl, rfl, rfl, rfl, rfl, rfl, rfl, rfl, rfl, rfl, rfl, rfl, rfl, rfl, rfl, rfl, rfl, rfl, rfl, rfl, rfl, rfl, rfl, rfl, rfl, rfl, rfl, rfl, HB2⟩ := hcut
          go_wp2_with fail
          go_ret
          exact ⟨by rw [HV.out, hT]; rfl, HB2.out⟩
      · have hTF : badT T fn = false := by simpa using hT
        have hfn : fn = 3 ∨ fn = 0 := by
          by_cases f3 : fn = 3
          · exact .inl f3
          · by_cases f0 : fn = 0
            · exact .inr f0
            · exfalso
              have a3 : (fn == 3) = false := by simpa using f3
              have a0 : (fn != 0) = true := by simpa using f0
              have a3b : (fn != 3) = true := by simpa using f3
              unfold badT at hTF
              rw [a3, a0, a3b] at hTF
              simp at hTF
        go_upto_region 6 with (fail)
        go_cut [115, 116, 117, 118, 119, 120, 121, 122, 123, 124, 125, 126, 127, 128, 129, 130, 131, 132, 133, 134, 135, 136, 137, 138, 139, 140, 141, 142, 143, 144, 145, 146, 147, 148, 149, 150, 151, 152, 153, 154, 155, 156, 157, 158, 159, 160, 161, 162, 163, 164, 165, 166, 167, 168, 169, 170] (fun u115 u116 u117 u118 u119 u120 u121 u122 u123 u124 u125 u126 u127 u128 u129 u130 u131 u132 u133 u134 u135 u136 u137 u138 u139 u140 u141 u142 u143 u144 u145 u146 u147 u148 u149 u150 u151 u152 u153 u154 u155 u156 u157 u158 u159 u160 u161 u162 u163 u164 u165 u166 u167 u168 u169 u170 wx => u115 = .bool false ∧ u116 = undef ∧ u117 = undef ∧ u118 = undef ∧ u119 = undef ∧ u120 = undef ∧ u121 = undef ∧ u122 = undef ∧ u123 = undef ∧ u124 = undef ∧ u125 = undef ∧ u126 = undef ∧ u127 = undef ∧ u128 = undef ∧ u129 = undef ∧ u130 = undef ∧ u131 = undef ∧ u132 = undef ∧ u133 = undef ∧ u134 = undef ∧ u135 = undef ∧ u136 = undef ∧ u137 = undef ∧ u138 = undef ∧ u139 = undef ∧ u140 = undef ∧ u141 = undef ∧ u142 = undef ∧ u143 = undef ∧ u144 = undef ∧ u145 = undef ∧ u146 = undef ∧ u147 = undef ∧ u148 = undef ∧ u149 = undef ∧ u150 = undef ∧ u151 = undef ∧ u152 = undef ∧ u153 = undef ∧ u154 = undef ∧ u155 = undef ∧ u156 = undef ∧ u157 = undef ∧ u158 = undef ∧ u159 = undef ∧ u160 = undef ∧ u161 = undef ∧ u162 = undef ∧ u163 = undef ∧ u164 = undef ∧ u165 = undef ∧ u166 = undef ∧ u167 = undef ∧ u168 = undef ∧ u169 = undef ∧ u170 = undef ∧ ∃ k, wx = wc.drewN k)
        case first =>
          rcases hfn with f3 | f0
          · subst f3
            have hTf : T = true := by cases T
                                      · exact absurd hTF (by decide)
                                      · rfl
            subst hTf
            go_quiet ((go_at_call 70; first | with_reducible exact quiet_left (XT2.out _) | with_reducible exact quiet_add_left (XT2.out _)))
            go_wp2_with fail
            go_meet
            exact ⟨rfl, rfl, rfl, rfl, rfl, rfl, rfl, rfl, rfl, rfl, rfl, rfl, rfl, rfl, rfl, rfl, rfl, rfl, rfl, rfl, rfl, rfl, rfl, rfl, rfl, rfl, rfl, rfl, rfl, rfl, rfl, rfl, rfl, rfl, rfl, rfl, rfl, rfl, rfl, rfl, rfl, rfl, rfl, rfl, rfl, rfl, rfl, rfl, rfl, rfl, rfl, rfl, rfl, rfl, rfl, rfl, _, rfl⟩
          · subst f0
            have hTf : T = false := by cases T
                                       · rfl
                                       · exact absurd hTF (by decide)
            subst hTf
            go_quiet ((go_at_call 70; first | with_reducible exact quiet_left (XT2.out _) | with_reducible exact quiet_add_left (XT2.out _)))
            go_wp2_with fail
            go_meet
            exact ⟨rfl, rfl, rfl, rfl, rfl, rfl, rfl, rfl, rfl, rfl, rfl, rfl, rfl, rfl, rfl, rfl, rfl, rfl, rfl, rfl, rfl, rfl, rfl, rfl, rfl, rfl, rfl, rfl, rfl, rfl, rfl, rfl, rfl, rfl, rfl, rfl, rfl, rfl, rfl, rfl, rfl, rfl, rfl, rfl, rfl, rfl, rfl, rfl, rfl, rfl, rfl, rfl, rfl, rfl, rfl, rfl, _, rfl⟩
        case rest =>
          obtain ⟨rfl, rfl, rfl, rfl, rfl, rfl, rfl, rfl, rfl, rfl, rfl, rfl, rfl, rfl, rfl, rfl, rfl, rfl, rfl, rfl, rfl, rfl, rfl, rfl, rfl, rfl, rfl, rfl, rfl, rfl, rfl, rfl, rfl, rfl, rfl, rfl, rfl, rfl, rfl, rfl, rfl, rfl, rfl, rfl, rfl, rfl, rfl, rfl, rfl, rfl, rfl, rfl, rfl, rfl, rfl, rfl, k0, hk0⟩ := hcut
          have HB2 : Hid (Below w.heap.size w wc) := hide (by rw [hk0]; exact below_drewP HB1.out k0)
          have HK2 : Hid (Blk wc w.heap.size 26 #[.int .i64 op, .string ⟨p.toArray⟩, .string ⟨p2.toArray⟩, .int .i64 h, .int .i64 n, .int .i64 fl, .slice D dn dc, .slice A an ac, .slice E en ec, .slice F fn fc]) := hide (by rw [hk0]; exact HK1.out.drewN k0)
          have HRA2 : Hid (Reads wc wc.heap.size 1 A an (svs args)) := hide (by rw [hk0]; exact HRA1.out.drewN k0)
          have HRE2 : Hid (Reads wc wc.heap.size 1 E en (svs env)) := hide (by rw [hk0]; exact HRE1.out.drewN k0)
          have HRF2 : Hid (Reads wc wc.heap.size 1 F fn (ivs fds)) := hide (by rw [hk0]; exact HRF1.out.drewN k0)
          have HTF := hide hTF
          clear hk0 HB1 HK1 HRA1 HRE1 HRF1 XT2 hT hTF hfn x0 x1 x2 x3 x4 x5 x6 x7 x8 x9 hl
          have hl := HK2.out.lt
          obtain ⟨x0, x1, x2, x3, x4, x5, x6, x7, x8, x9⟩ := blk10 HK2.out
          go_wp2_with fail
          go_loop [4] (fun s4 => ∃ i : Nat, i ≤ fn ∧ s4 = .int .i64 (i : Int) ∧ Hid ((fds.take i).all wideP = true)) (fun i => fn - (intOf i).toNat)
          case atStart => exact ⟨0, Nat.zero_le _, rfl, hide rfl⟩
          case round =>
            obtain ⟨i, hi', rfl, HN⟩ := hrel
            by_cases hlt : i < fn
            · have hlt1 : (i : Int) < (fn : Int) := by omega
              have hi0 : (0 : Int) ≤ (i : Int) := by omega
              have v1 : IntKind.i64.wrap ((i : Int) + 1) = (i : Int) + 1 := by simp [IntKind.wrap, IntKind.bits, IntKind.signed]; omega
              have hil : i < fds.length := by rw [← HFL.out]; exact hlt
              obtain ⟨g, o, rfl, hg, hc1⟩ := cells_of HRF2.out (by omega) (by rw [ivs, List.length_map]; omega)
              have hcell := hc1 i _ (ivs_get fds i hil)
              have HT := hide (all_take fds i fds[i] (List.getElem?_eq_getElem hil) HN.out)
              generalize fds[i] = x at *
              have XW := hide (rwide_any x wc)
              clear hc1
              cases hw : wideP x with
              | false =>
                rw [hw] at HT XW
                clear hw
                go_wp2_with fail
                refine XW.out.mono ?_
                rintro e4 w4 ⟨rfl, rfl⟩
                go_wp2_with fail
                go_ret
                exact ⟨by rw [HV.out, HTF.out, all_false fds (i + 1) HT.out]; rfl, HB2.out⟩
              | true =>
                rw [hw] at HT XW
                clear hw
                go_wp2_with fail
                refine XW.out.mono ?_
                rintro e4 w4 ⟨rfl, rfl⟩
                clear XW hcell
                go_wp2_with fail
                go_round
                case rel => exact ⟨i + 1, by omega, by go_num, HT⟩
                case measure => simp [intOf]; omega
            · obtain rfl : i = fn := by omega
              have hlt1 : ¬ (i : Int) < (i : Int) := by omega
              have HF : Hid (fds.all wideP = true) := hide (by
                have h := HN.out
                rwa [HFL.out, List.take_length] at h)
              have XH := hide (rwide_any h wc)
              have XN := hide (rwide_any n wc)
              have XL := hide (rwide_any fl wc)
              have XA := hide (rtexts_any args 16 A an ac wc HRA2.out (by omega))
              have XE := hide (rtexts_any env 32 E en ec wc HRE2.out (by omega))
              clear HN hi' hlt
              by_cases z1 : (p.length : Int) ≤ 256
              · have z1n : decide (p.length ≤ 256) = true := by simp; omega
                by_cases z2 : (p2.length : Int) ≤ 256
                · have z2n : decide (p2.length ≤ 256) = true := by simp; omega
                  cases w1 : wideP h with
                  | false =>
                    rw [w1] at XH
                    go_wp2_with fail
                    refine XH.out.mono ?_
                    rintro e9 w9 ⟨rfl, rfl⟩
                    go_wp2_with fail
                    go_ret
                    exact ⟨by rw [HV.out, HTF.out, HF.out, z1n, z2n, w1]; rfl, HB2.out⟩
                  | true =>
                    rw [w1] at XH
                    cases w2 : wideP n with
                    | false =>
                      rw [w2] at XN
                      go_wp2_with fail
                      refine XH.out.mono ?_
                      rintro e9 w9 ⟨rfl, rfl⟩
                      go_wp2_with fail
                      refine XN.out.mono ?_
                      rintro e9 w9 ⟨rfl, rfl⟩
                      go_wp2_with fail
                      go_ret
                      exact ⟨by rw [HV.out, HTF.out, HF.out, z1n, z2n, w1, w2]; rfl, HB2.out⟩
                    | true =>
                      rw [w2] at XN
                      cases w3 : wideP fl with
                      | false =>
                        rw [w3] at XL
                        go_wp2_with fail
                        refine XH.out.mono ?_
                        rintro e9 w9 ⟨rfl, rfl⟩
                        go_wp2_with fail
                        refine XN.out.mono ?_
                        rintro e9 w9 ⟨rfl, rfl⟩
                        go_wp2_with fail
                        refine XL.out.mono ?_
                        rintro e9 w9 ⟨rfl, rfl⟩
                        go_wp2_with fail
                        go_ret
                        exact ⟨by rw [HV.out, HTF.out, HF.out, z1n, z2n, w1, w2, w3]; rfl, HB2.out⟩
                      | true =>
                        rw [w3] at XL
                        by_cases z3 : (dn : Int) ≤ 2048
                        · have z3n : decide (dn ≤ 2048) = true := by simp; omega
                          cases w4 : txsP 256 args 16 with
                          | false =>
                            rw [w4] at XA
                            go_wp2_with fail
                            refine XH.out.mono ?_
                            rintro e9 w9 ⟨rfl, rfl⟩
                            go_wp2_with fail
                            refine XN.out.mono ?_
                            rintro e9 w9 ⟨rfl, rfl⟩
                            go_wp2_with fail
                            refine XL.out.mono ?_
                            rintro e9 w9 ⟨rfl, rfl⟩
                            go_wp2_with fail
                            refine XA.out.mono ?_
                            rintro e9 w9 ⟨rfl, rfl⟩
                            go_wp2_with fail
                            go_ret
                            exact ⟨by rw [HV.out, HTF.out, HF.out, z1n, z2n, w1, w2, w3, z3n, w4]; rfl, HB2.out⟩
                          | true =>
                            rw [w4] at XA
                            cases w5 : txsP 256 env 32 with
                            | false =>
                              rw [w5] at XE
                              go_wp2_with fail
                              refine XH.out.mono ?_
                              rintro e9 w9 ⟨rfl, rfl⟩
                              go_wp2_with fail
                              refine XN.out.mono ?_
                              rintro e9 w9 ⟨rfl, rfl⟩
                              go_wp2_with fail
                              refine XL.out.mono ?_
                              rintro e9 w9 ⟨rfl, rfl⟩
                              go_wp2_with fail
                              refine XA.out.mono ?_
                              rintro e9 w9 ⟨rfl, rfl⟩
                              go_wp2_with fail
                              refine XE.out.mono ?_
                              rintro e9 w9 ⟨rfl, rfl⟩
                              go_wp2_with fail
                              go_ret
                              exact ⟨by rw [HV.out, HTF.out, HF.out, z1n, z2n, w1, w2, w3, z3n, w4, w5]; rfl, HB2.out⟩
                            | true =>
                              rw [w5] at XE
                              go_wp2_with fail
                              refine XH.out.mono ?_
                              rintro e9 w9 ⟨rfl, rfl⟩
                              go_wp2_with fail
                              refine XN.out.mono ?_
                              rintro e9 w9 ⟨rfl, rfl⟩
                              go_wp2_with fail
                              refine XL.out.mono ?_
                              rintro e9 w9 ⟨rfl, rfl⟩
                              go_wp2_with fail
                              refine XA.out.mono ?_
                              rintro e9 w9 ⟨rfl, rfl⟩
                              go_wp2_with fail
                              refine XE.out.mono ?_
                              rintro e9 w9 ⟨rfl, rfl⟩
                              go_wp2_with fail
                              go_ret
                              exact ⟨by rw [HV.out, HTF.out, HF.out, z1n, z2n, w1, w2, w3, z3n, w4, w5]; rfl, HB2.out⟩
                        · have z3n : decide (dn ≤ 2048) = false := by simp; omega
                          go_wp2_with fail
                          refine XH.out.mono ?_
                          rintro e9 w9 ⟨rfl, rfl⟩
                          go_wp2_with fail
                          refine XN.out.mono ?_
                          rintro e9 w9 ⟨rfl, rfl⟩
                          go_wp2_with fail
                          refine XL.out.mono ?_
                          rintro e9 w9 ⟨rfl, rfl⟩
                          go_wp2_with fail
                          go_ret
                          exact ⟨by rw [HV.out, HTF.out, HF.out, z1n, z2n, w1, w2, w3, z3n]; rfl, HB2.out⟩
                · have z2n : decide (p2.length ≤ 256) = false := by simp; omega
                  go_wp2_with fail
                  go_ret
                  exact ⟨by rw [HV.out, HTF.out, HF.out, z1n, z2n]; rfl, HB2.out⟩
              · have z1n : decide (p.length ≤ 256) = false := by simp; omega
                go_wp2_with fail
                go_ret
                exact ⟨by rw [HV.out, HTF.out, HF.out, z1n]; rfl, HB2.out⟩
set_option maxRecDepth 100000 in
set_option maxHeartbeats 40000000 in
theorem rchkx1 (op h n fl : Int) (p p2 : LB) (fds : List Int) (args env : List LB) (D A E F : Option Addr) (dn dc an ac en ec fn fc : Nat) (w : World) (h1 : 1 ≤ op) (h2 : op ≤ 16) (hlf : fieldsP op = [80, 70, 78]) (b : Bool) (hA : Reads w w.heap.size 1 A an (svs args)) (hE : Reads w w.heap.size 1 E en (svs env)) (hF : Reads w w.heap.size 1 F fn (ivs fds)) (hn : an ≤ 1000 ∧ en ≤ 1000 ∧ fn ≤ 100000)
    (hb0 : b = ((!badU ([80, 70, 78] : LB) h n fl p p2 dn an en && !badT (hasC 84 ([80, 70, 78] : LB)) fn) && fds.all wideP && (decide (p.length ≤ 256) && decide (p2.length ≤ 256) && wideP h && wideP n && wideP fl && decide (dn ≤ 2048) && txsP 256 args 16 && txsP 256 env 32))) :
    Calls Try.prog 16 #[.agg #[.int .i64 op, .string ⟨p.toArray⟩, .string ⟨p2.toArray⟩, .int .i64 h, .int .i64 n, .int .i64 fl, .slice D dn dc, .slice A an ac, .slice E en ec, .slice F fn fc]] w fun e w' => e = .returned (.bool b) ∧ Below w.heap.size w w' := by
  have HV := hide hb0
  have HRA := hide hA
  have HRE := hide hE
  have HRF := hide hF
  clear hA hE hF hb0
  have hb := (Below.refl w.heap.size w).alloc (Nat.le_refl _) (.cells #[.int .i64 op, .string ⟨p.toArray⟩, .string ⟨p2.toArray⟩, .int .i64 h, .int .i64 n, .int .i64 fl, .slice D dn dc, .slice A an ac, .slice E en ec, .slice F fn fc] 26)
  have hk := Blk.new w 26 #[.int .i64 op, .string ⟨p.toArray⟩, .string ⟨p2.toArray⟩, .int .i64 h, .int .i64 n, .int .i64 fl, .slice D dn dc, .slice A an ac, .slice E en ec, .slice F fn fc]
  have HB := hide hb
  have HK := hide hk
  have hl := hk.lt
  have XF := hide (fun W => fields_any op W)
  simp only [hlf] at XF
  clear hb
  obtain ⟨x0, x1, x2, x3, x4, x5, x6, x7, x8, x9⟩ := blk10 hk
  clear hk
  have o1 : ¬ op < 1 := by omega
  have o2 : ¬ 16 < op := by omega
  go_enter Try.func16, Try.ntmps16
  go_wp2_with fail
  refine (XF.out _).mono ?_
  rintro e w1 ⟨rfl, hb1⟩
  have HB1 := hide (below_more HB.out (Nat.le_refl _) hb1)
  have HK1 := hide (HK.out.below hb1 hl)
  clear hb1 x0 x1 x2 x3 x4 x5 x6 x7 x8 x9 HB HK XF o1 o2 hl
  have hl := HK1.out.lt
  obtain ⟨x0, x1, x2, x3, x4, x5, x6, x7, x8, x9⟩ := blk10 HK1.out
  go_upto_region 4 with (fail)
  go_cut [96, 97, 98, 99, 100, 101, 102, 103, 104, 105, 106, 107, 108, 109, 110, 111, 112, 113, 114, 115, 116, 117, 118, 119, 120, 121, 122, 123, 124, 125, 126, 127, 128, 129, 130, 131, 132, 133, 134, 135, 136, 137, 138, 139, 140, 141, 142, 143, 144, 145, 146, 147, 148, 149, 150, 151, 152, 153, 154, 155, 156, 157, 158, 159, 160, 161, 162, 163, 164, 165, 166, 167, 168, 169, 170] (fun u96 u97 u98 u99 u100 u101 u102 u103 u104 u105 u106 u107 u108 u109 u110 u111 u112 u113 u114 u115 u116 u117 u118 u119 u120 u121 u122 u123 u124 u125 u126 u127 u128 u129 u130 u131 u132 u133 u134 u135 u136 u137 u138 u139 u140 u141 u142 u143 u144 u145 u146 u147 u148 u149 u150 u151 u152 u153 u154 u155 u156 u157 u158 u159 u160 u161 u162 u163 u164 u165 u166 u167 u168 u169 u170 wx => u96 = .bool (badU ([80, 70, 78] : LB) h n fl p p2 dn an en) ∧ wx = w1 ∧ u97 = undef ∧ u98 = undef ∧ u99 = undef ∧ u100 = undef ∧ u101 = undef ∧ u102 = undef ∧ u103 = undef ∧ u104 = undef ∧ u105 = undef ∧ u106 = undef ∧ u107 = undef ∧ u108 = undef ∧ u109 = undef ∧ u110 = undef ∧ u111 = undef ∧ u112 = undef ∧ u113 = undef ∧ u114 = undef ∧ u115 = undef ∧ u116 = undef ∧ u117 = undef ∧ u118 = undef ∧ u119 = undef ∧ u120 = undef ∧ u121 = undef ∧ u122 = undef ∧ u123 = undef ∧ u124 = undef ∧ u125 = undef ∧ u126 = undef ∧ u127 = undef ∧ u128 = undef ∧ u129 = undef ∧ u130 = undef ∧ u131 = undef ∧ u132 = undef ∧ u133 = undef ∧ u134 = undef ∧ u135 = undef ∧ u136 = undef ∧ u137 = undef ∧ u138 = undef ∧ u139 = undef ∧ u140 = undef ∧ u141 = undef ∧ u142 = undef ∧ u143 = undef ∧ u144 = undef ∧ u145 = undef ∧ u146 = undef ∧ u147 = undef ∧ u148 = undef ∧ u149 = undef ∧ u150 = undef ∧ u151 = undef ∧ u152 = undef ∧ u153 = undef ∧ u154 = undef ∧ u155 = undef ∧ u156 = undef ∧ u157 = undef ∧ u158 = undef ∧ u159 = undef ∧ u160 = undef ∧ u161 = undef ∧ u162 = undef ∧ u163 = undef ∧ u164 = undef ∧ u165 = undef ∧ u166 = undef ∧ u167 = undef ∧ u168 = undef ∧ u169 = undef ∧ u170 = undef)
  case first =>
    go_step
    simp only [List.append_eq, List.cons_append, List.nil_append]
    have HBAD : Hid (badU [80, 70, 78] h n fl p p2 dn an en = ((false && !p.isEmpty) || (true && !p2.isEmpty) || (true && (h != 0)) || (false && (n != 0)) || (false && (fl != 0)) || (true && decide (0 < dn)) || (true && decide (0 < an)) || (true && decide (0 < en)))) := hide rfl
    have X80 : Hid (Calls Try.prog 70 #[.string ⟨#[80, 70, 78]⟩, .int .u8 80] w1 fun e w' => e = .returned (.bool true) ∧ w1 = w') := hide (has_any [80, 70, 78] 80 w1 (by decide))
    have X81 : Hid (Calls Try.prog 70 #[.string ⟨#[80, 70, 78]⟩, .int .u8 81] w1 fun e w' => e = .returned (.bool false) ∧ w1 = w') := hide (has_any [80, 70, 78] 81 w1 (by decide))
    have X72 : Hid (Calls Try.prog 70 #[.string ⟨#[80, 70, 78]⟩, .int .u8 72] w1 fun e w' => e = .returned (.bool false) ∧ w1 = w') := hide (has_any [80, 70, 78] 72 w1 (by decide))
    have X78 : Hid (Calls Try.prog 70 #[.string ⟨#[80, 70, 78]⟩, .int .u8 78] w1 fun e w' => e = .returned (.bool true) ∧ w1 = w') := hide (has_any [80, 70, 78] 78 w1 (by decide))
    have X70 : Hid (Calls Try.prog 70 #[.string ⟨#[80, 70, 78]⟩, .int .u8 70] w1 fun e w' => e = .returned (.bool true) ∧ w1 = w') := hide (has_any [80, 70, 78] 70 w1 (by decide))
    have X68 : Hid (Calls Try.prog 70 #[.string ⟨#[80, 70, 78]⟩, .int .u8 68] w1 fun e w' => e = .returned (.bool false) ∧ w1 = w') := hide (has_any [80, 70, 78] 68 w1 (by decide))
    have X65 : Hid (Calls Try.prog 70 #[.string ⟨#[80, 70, 78]⟩, .int .u8 65] w1 fun e w' => e = .returned (.bool false) ∧ w1 = w') := hide (has_any [80, 70, 78] 65 w1 (by decide))
    have X69 : Hid (Calls Try.prog 70 #[.string ⟨#[80, 70, 78]⟩, .int .u8 69] w1 fun e w' => e = .returned (.bool false) ∧ w1 = w') := hide (has_any [80, 70, 78] 69 w1 (by decide))
    go_wp2_with fail
    with_reducible refine X80.out.mono ?_
    rintro e9 w9 ⟨rfl, rfl⟩
    go_wp2_with fail
    with_reducible refine X81.out.mono ?_
    rintro e9 w9 ⟨rfl, rfl⟩
    cases hq1 : p2.isEmpty with
    | false =>
      obtain ⟨e1, e2, e3⟩ := ne_facts hq1
      go_wp2_with fail
      go_meet
      exact ⟨by rw [HBAD.out, hq1]; rfl, rfl, rfl, rfl, rfl, rfl, rfl, rfl, rfl, rfl, rfl, rfl, rfl, rfl, rfl, rfl, rfl, rfl, rfl, rfl, rfl, rfl, rfl, rfl, rfl, rfl, rfl, rfl, rfl, rfl, rfl, rfl, rfl, rfl, rfl, rfl, rfl, rfl, rfl, rfl, rfl, rfl, rfl, rfl, rfl, rfl, rfl, rfl, rfl, rfl, rfl, rfl, rfl, rfl, rfl, rfl, rfl, rfl, rfl, rfl, rfl, rfl, rfl, rfl, rfl, rfl, rfl, rfl, rfl, rfl, rfl, rfl, rfl, rfl, rfl, rfl⟩
    | true =>
      obtain ⟨f1a, f1b⟩ := eq_facts hq1
      go_wp2_with fail
      with_reducible refine X72.out.mono ?_
      rintro e9 w9 ⟨rfl, rfl⟩
      cases hq2 : (h != 0) with
      | true =>
        go_wp2_with fail
        go_meet
        exact ⟨by rw [HBAD.out, hq1, hq2]; rfl, rfl, rfl, rfl, rfl, rfl, rfl, rfl, rfl, rfl, rfl, rfl, rfl, rfl, rfl, rfl, rfl, rfl, rfl, rfl, rfl, rfl, rfl, rfl, rfl, rfl, rfl, rfl, rfl, rfl, rfl, rfl, rfl, rfl, rfl, rfl, rfl, rfl, rfl, rfl, rfl, rfl, rfl, rfl, rfl, rfl, rfl, rfl, rfl, rfl, rfl, rfl, rfl, rfl, rfl, rfl, rfl, rfl, rfl, rfl, rfl, rfl, rfl, rfl, rfl, rfl, rfl, rfl, rfl, rfl, rfl, rfl, rfl, rfl, rfl, rfl⟩
      | false =>
        go_wp2_with fail
        with_reducible refine X78.out.mono ?_
        rintro e9 w9 ⟨rfl, rfl⟩
        go_wp2_with fail
        with_reducible refine X70.out.mono ?_
        rintro e9 w9 ⟨rfl, rfl⟩
        go_wp2_with fail
        with_reducible refine X68.out.mono ?_
        rintro e9 w9 ⟨rfl, rfl⟩
        by_cases hq5 : (0 : Int) < (dn : Int)
        · have hr5 : decide (0 < dn) = true := by simp; omega
          go_wp2_with fail
          go_meet
          exact ⟨by rw [HBAD.out, hq1, hq2, hr5]; rfl, rfl, rfl, rfl, rfl, rfl, rfl, rfl, rfl, rfl, rfl, rfl, rfl, rfl, rfl, rfl, rfl, rfl, rfl, rfl, rfl, rfl, rfl, rfl, rfl, rfl, rfl, rfl, rfl, rfl, rfl, rfl, rfl, rfl, rfl, rfl, rfl, rfl, rfl, rfl, rfl, rfl, rfl, rfl, rfl, rfl, rfl, rfl, rfl, rfl, rfl, rfl, rfl, rfl, rfl, rfl, rfl, rfl, rfl, rfl, rfl, rfl, rfl, rfl, rfl, rfl, rfl, rfl, rfl, rfl, rfl, rfl, rfl, rfl, rfl, rfl⟩
        · have hr5 : decide (0 < dn) = false := by simp; omega
          go_wp2_with fail
          with_reducible refine X65.out.mono ?_
          rintro e9 w9 ⟨rfl, rfl⟩
          by_cases hq6 : (0 : Int) < (an : Int)
          · have hr6 : decide (0 < an) = true := by simp; omega
            go_wp2_with fail
            go_meet
            exact ⟨by rw [HBAD.out, hq1, hq2, hr5, hr6]; rfl, rfl, rfl, rfl, rfl, rfl, rfl, rfl, rfl, rfl, rfl, rfl, rfl, rfl, rfl, rfl, rfl, rfl, rfl, rfl, rfl, rfl, rfl, rfl, rfl, rfl, rfl, rfl, rfl, rfl, rfl, rfl, rfl, rfl, rfl, rfl, rfl, rfl, rfl, rfl, rfl, rfl, rfl, rfl, rfl, rfl, rfl, rfl, rfl, rfl, rfl, rfl, rfl, rfl, rfl, rfl, rfl, rfl, rfl, rfl, rfl, rfl, rfl, rfl, rfl, rfl, rfl, rfl, rfl, rfl, rfl, rfl, rfl, rfl, rfl, rfl⟩
          · have hr6 : decide (0 < an) = false := by simp; omega
            go_wp2_with fail
            with_reducible refine X69.out.mono ?_
            rintro e9 w9 ⟨rfl, rfl⟩
            by_cases hq7 : (0 : Int) < (en : Int)
            · have hr7 : decide (0 < en) = true := by simp; omega
              go_wp2_with fail
              go_meet
              exact ⟨by rw [HBAD.out, hq1, hq2, hr5, hr6, hr7]; rfl, rfl, rfl, rfl, rfl, rfl, rfl, rfl, rfl, rfl, rfl, rfl, rfl, rfl, rfl, rfl, rfl, rfl, rfl, rfl, rfl, rfl, rfl, rfl, rfl, rfl, rfl, rfl, rfl, rfl, rfl, rfl, rfl, rfl, rfl, rfl, rfl, rfl, rfl, rfl, rfl, rfl, rfl, rfl, rfl, rfl, rfl, rfl, rfl, rfl, rfl, rfl, rfl, rfl, rfl, rfl, rfl, rfl, rfl, rfl, rfl, rfl, rfl, rfl, rfl, rfl, rfl, rfl, rfl, rfl, rfl, rfl, rfl, rfl, rfl, rfl⟩
            · have hr7 : decide (0 < en) = false := by simp; omega
              go_wp2_with fail
              go_meet
              exact ⟨by rw [HBAD.out, hq1, hq2, hr5, hr6, hr7]; rfl, rfl, rfl, rfl, rfl, rfl, rfl, rfl, rfl, rfl, rfl, rfl, rfl, rfl, rfl, rfl, rfl, rfl, rfl, rfl, rfl, rfl, rfl, rfl, rfl, rfl, rfl, rfl, rfl, rfl, rfl, rfl, rfl, rfl, rfl, rfl, rfl, rfl, rfl, rfl, rfl, rfl, rfl, rfl, rfl, rfl, rfl, rfl, rfl, rfl, rfl, rfl, rfl, rfl, rfl, rfl, rfl, rfl, rfl, rfl, rfl, rfl, rfl, rfl, rfl, rfl, rfl, rfl, rfl, rfl, rfl, rfl, rfl, rfl, rfl, rfl⟩
  case rest =>
    obtain ⟨rfl, rfl, rfl, rfl, rfl, rfl, rfl, rfl, rfl, rfl, rfl, rfl, rfl, rfl, rfl, rfl, rfl, rfl, rfl, rfl, rfl, rfl, rfl, rfl, rfl, rfl, rfl, rfl, rfl, rfl, rfl, rfl, rfl, rfl, rfl, rfl, rfl, rfl, rfl, rfl, rfl, rfl, rfl, rfl, rfl, rfl, rfl, rfl, rfl, rfl, rfl, rfl, rfl, rfl, rfl, rfl, rfl, rfl, rfl, rfl, rfl, rfl, rfl, rfl, rfl, rfl, rfl, rfl, rfl, rfl, rfl, rfl, rfl, rfl, rfl, rfl⟩ := hcut
    have HL84 : ([80, 70, 78] : LB).length ≤ 100000 := by decide
    have XT := hide (fun V => has_any ([80, 70, 78] : LB) 84 V HL84)
    have HRA1 := hide ((HRA.out.below HB1.out).more HB1.out.size)
    have HRE1 := hide ((HRE.out.below HB1.out).more HB1.out.size)
    have HRF1 := hide ((HRF.out.below HB1.out).more HB1.out.size)
    have HFL : Hid (fn = fds.length) := hide (ri_len HRF.out)
    clear HRA HRE HRF HL84
    generalize badU ([80, 70, 78] : LB) h n fl p p2 dn an en = U at *
    generalize hasC 84 ([80, 70, 78] : LB) = T at *
    have XT2 : Hid (∀ V, Calls Try.prog 70 #[.string ⟨#[80, 70, 78]⟩, .int .u8 84] V fun e w' => e = .returned (.bool T) ∧ V = w') := XT
    clear XT
    clear h1 h2 hlf
    cases U with
    | true =>
      go_wp2_with fail
      go_ret
      exact ⟨by rw [HV.out]; rfl, HB1.out⟩
    | false =>
      by_cases hT : badT T fn = true
      · go_upto_region 6 with (fail)
        go_cut [115, 116, 117, 118, 119, 120, 121, 122, 123, 124, 125, 126, 127, 128, 129, 130, 131, 132, 133, 134, 135, 136, 137, 138, 139, 140, 141, 142, 143, 144, 145, 146, 147, 148, 149, 150, 151, 152, 153, 154, 155, 156, 157, 158, 159, 160, 161, 162, 163, 164, 165, 166, 167, 168, 169, 170] (fun u115 u116 u117 u118 u119 u120 u121 u122 u123 u124 u125 u126 u127 u128 u129 u130 u131 u132 u133 u134 u135 u136 u137 u138 u139 u140 u141 u142 u143 u144 u145 u146 u147 u148 u149 u150 u151 u152 u153 u154 u155 u156 u157 u158 u159 u160 u161 u162 u163 u164 u165 u166 u167 u168 u169 u170 wx => u115 = .bool true ∧ u116 = undef ∧ u117 = undef ∧ u118 = undef ∧ u119 = undef ∧ u120 = undef ∧ u121 = undef ∧ u122 = undef ∧ u123 = undef ∧ u124 = undef ∧ u125 = undef ∧ u126 = undef ∧ u127 = undef ∧ u128 = undef ∧ u129 = undef ∧ u130 = undef ∧ u131 = undef ∧ u132 = undef ∧ u133 = undef ∧ u134 = undef ∧ u135 = undef ∧ u136 = undef ∧ u137 = undef ∧ u138 = undef ∧ u139 = undef ∧ u140 = undef ∧ u141 = undef ∧ u142 = undef ∧ u143 = undef ∧ u144 = undef ∧ u145 = undef ∧ u146 = undef ∧ u147 = undef ∧ u148 = undef ∧ u149 = undef ∧ u150 = undef ∧ u151 = undef ∧ u152 = undef ∧ u153 = undef ∧ u154 = undef ∧ u155 = undef ∧ u156 = undef ∧ u157 = undef ∧ u158 = undef ∧ u159 = undef ∧ u160 = undef ∧ u161 = undef ∧ u162 = undef ∧ u163 = undef ∧ u164 = undef ∧ u165 = undef ∧ u166 = undef ∧ u167 = undef ∧ u168 = undef ∧ u169 = undef ∧ u170 = undef ∧ Hid (Below w.heap.size w wx))
        case first =>
          by_cases f3 : fn = 3
          · subst f3
            have hTf : T = false := by cases T
                                       · rfl
                                       · exact absurd hT (by decide)
            subst hTf
            go_quiet ((go_at_call 70; first | with_reducible exact quiet_left (XT2.out _) | with_reducible exact quiet_add_left (XT2.out _)))
            go_wp2_with fail
            go_meet
            exact ⟨rfl, rfl, rfl, rfl, rfl, rfl, rfl, rfl, rfl, rfl, rfl, rfl, rfl, rfl, rfl, rfl, rfl, rfl, rfl, rfl, rfl, rfl, rfl, rfl, rfl, rfl, rfl, rfl, rfl, rfl, rfl, rfl, rfl, rfl, rfl, rfl, rfl, rfl, rfl, rfl, rfl, rfl, rfl, rfl, rfl, rfl, rfl, rfl, rfl, rfl, rfl, rfl, rfl, rfl, rfl, rfl, hide (below_drewP HB1.out _)⟩
          · have e3 : ((fn : Int) == 3) = false := by simp; omega
            have e3b : ((fn : Int) != 3) = true := by simp; omega
            cases T with
            | true =>
              go_quiet ((go_at_call 70; first | with_reducible exact quiet_left (XT2.out _) | with_reducible exact quiet_add_left (XT2.out _)))
              go_wp2_with fail
              go_meet
              exact ⟨rfl, rfl, rfl, rfl, rfl, rfl, rfl, rfl, rfl, rfl, rfl, rfl, rfl, rfl, rfl, rfl, rfl, rfl, rfl, rfl, rfl, rfl, rfl, rfl, rfl, rfl, rfl, rfl, rfl, rfl, rfl, rfl, rfl, rfl, rfl, rfl, rfl, rfl, rfl, rfl, rfl, rfl, rfl, rfl, rfl, rfl, rfl, rfl, rfl, rfl, rfl, rfl, rfl, rfl, rfl, rfl, hide (below_drewP HB1.out _)⟩
            | false =>
              have f0 : ¬ fn = 0 := by
                intro f0
                subst f0
                exact absurd hT (by decide)
              have e0 : ((fn : Int) == 0) = false := by simp; omega
              have e0b : ((fn : Int) != 0) = true := by simp; omega
              go_quiet ((go_at_call 70; first | with_reducible exact quiet_left (XT2.out _) | with_reducible exact quiet_add_left (XT2.out _)))
              go_wp2_with fail
              go_meet
              exact ⟨rfl, rfl, rfl, rfl, rfl, rfl, rfl, rfl, rfl, rfl, rfl, rfl, rfl, rfl, rfl, rfl, rfl, rfl, rfl, rfl, rfl, rfl, rfl, rfl, rfl, rfl, rfl, rfl, rfl, rfl, rfl, rfl, rfl, rfl, rfl, rfl, rfl, rfl, rfl, rfl, rfl, rfl, rfl, rfl, rfl, rfl, rfl, rfl, rfl, rfl, rfl, rfl, rfl, rfl, rfl, rfl, hide (below_drewP HB1.out _)⟩
        case rest =>
          obtain ⟨rfl, rfl, rfl, rfl, rfl, rfl, rfl, rfl, rfl, rfl, rfl, rfl, rfl, rfl, rfl, rfl, rfl, rfl, rfl, rfl, rfl, rfl, rfl, rfl, rfl, rfl, rfl, rfl, rfl, rfl, rfl, rfl, rfl, rfl, rfl, rfl, rfl, rfl, rfl, rfl, rfl, rfl, rfl, rfl, rfl, rfl, rfl, rfl, rfl, rfl, rfl, rfl, rfl, rfl, rfl, rfl, HB2⟩ := hcut
          go_wp2_with fail
          go_ret
          exact ⟨by rw [HV.out, hT]; rfl, HB2.out⟩
      · have hTF : badT T fn = false := by simpa using hT
        have hfn : fn = 3 ∨ fn = 0 := by
          by_cases f3 : fn = 3
          · exact .inl f3
          · by_cases f0 : fn = 0
            · exact .inr f0
            · exfalso
              have a3 : (fn == 3) = false := by simpa using f3
              have a0 : (fn != 0) = true := by simpa using f0
              have a3b : (fn != 3) = true := by simpa using f3
              unfold badT at hTF
              rw [a3, a0, a3b] at hTF
              simp at hTF
        go_upto_region 6 with (fail)
        go_cut [115, 116, 117, 118, 119, 120, 121, 122, 123, 124, 125, 126, 127, 128, 129, 130, 131, 132, 133, 134, 135, 136, 137, 138, 139, 140, 141, 142, 143, 144, 145, 146, 147, 148, 149, 150, 151, 152, 153, 154, 155, 156, 157, 158, 159, 160, 161, 162, 163, 164, 165, 166, 167, 168, 169, 170] (fun u115 u116 u117 u118 u119 u120 u121 u122 u123 u124 u125 u126 u127 u128 u129 u130 u131 u132 u133 u134 u135 u136 u137 u138 u139 u140 u141 u142 u143 u144 u145 u146 u147 u148 u149 u150 u151 u152 u153 u154 u155 u156 u157 u158 u159 u160 u161 u162 u163 u164 u165 u166 u167 u168 u169 u170 wx => u115 = .bool false ∧ u116 = undef ∧ u117 = undef ∧ u118 = undef ∧ u119 = undef ∧ u120 = undef ∧ u121 = undef ∧ u122 = undef ∧ u123 = undef ∧ u124 = undef ∧ u125 = undef ∧ u126 = undef ∧ u127 = undef ∧ u128 = undef ∧ u129 = undef ∧ u130 = undef ∧ u131 = undef ∧ u132 = undef ∧ u133 = undef ∧ u134 = undef ∧ u135 = undef ∧ u136 = undef ∧ u137 = undef ∧ u138 = undef ∧ u139 = undef ∧ u140 = undef ∧ u141 = undef ∧ u142 = undef ∧ u143 = undef ∧ u144 = undef ∧ u145 = undef ∧ u146 = undef ∧ u147 = undef ∧ u148 = undef ∧ u149 = undef ∧ u150 = undef ∧ u151 = undef ∧ u152 = undef ∧ u153 = undef ∧ u154 = undef ∧ u155 = undef ∧ u156 = undef ∧ u157 = undef ∧ u158 = undef ∧ u159 = undef ∧ u160 = undef ∧ u161 = undef ∧ u162 = undef ∧ u163 = undef ∧ u164 = undef ∧ u165 = undef ∧ u166 = undef ∧ u167 = undef ∧ u168 = undef ∧ u169 = undef ∧ u170 = undef ∧ ∃ k, wx = wc.drewN k)
        case first =>
          rcases hfn with f3 | f0
          · subst f3
            have hTf : T = true := by cases T
                                      · exact absurd hTF (by decide)
                                      · rfl
            subst hTf
            go_quiet ((go_at_call 70; first | with_reducible exact quiet_left (XT2.out _) | with_reducible exact quiet_add_left (XT2.out _)))
            go_wp2_with fail
            go_meet
            exact ⟨rfl, rfl, rfl, rfl, rfl, rfl, rfl, rfl, rfl, rfl, rfl, rfl, rfl, rfl, rfl, rfl, rfl, rfl, rfl, rfl, rfl, rfl, rfl, rfl, rfl, rfl, rfl, rfl, rfl, rfl, rfl, rfl, rfl, rfl, rfl, rfl, rfl, rfl, rfl, rfl, rfl, rfl, rfl, rfl, rfl, rfl, rfl, rfl, rfl, rfl, rfl, rfl, rfl, rfl, rfl, rfl, _, rfl⟩
          · subst f0
            have hTf : T = false := by cases T
                                       · rfl
                                       · exact absurd hTF (by decide)
            subst hTf
            go_quiet ((go_at_call 70; first | with_reducible exact quiet_left (XT2.out _) | with_reducible exact quiet_add_left (XT2.out _)))
            go_wp2_with fail
            go_meet
            exact ⟨rfl, rfl, rfl, rfl, rfl, rfl, rfl, rfl, rfl, rfl, rfl, rfl, rfl, rfl, rfl, rfl, rfl, rfl, rfl, rfl, rfl, rfl, rfl, rfl, rfl, rfl, rfl, rfl, rfl, rfl, rfl, rfl, rfl, rfl, rfl, rfl, rfl, rfl, rfl, rfl, rfl, rfl, rfl, rfl, rfl, rfl, rfl, rfl, rfl, rfl, rfl, rfl, rfl, rfl, rfl, rfl, _, rfl⟩
        case rest =>
          obtain ⟨rfl, rfl, rfl, rfl, rfl, rfl, rfl, rfl, rfl, rfl, rfl, rfl, rfl, rfl, rfl, rfl, rfl, rfl, rfl, rfl, rfl, rfl, rfl, rfl, rfl, rfl, rfl, rfl, rfl, rfl, rfl, rfl, rfl, rfl, rfl, rfl, rfl, rfl, rfl, rfl, rfl, rfl, rfl, rfl, rfl, rfl, rfl, rfl, rfl, rfl, rfl, rfl, rfl, rfl, rfl, rfl, k0, hk0⟩ := hcut
          have HB2 : Hid (Below w.heap.size w wc) := hide (by rw [hk0]; exact below_drewP HB1.out k0)
          have HK2 : Hid (Blk wc w.heap.size 26 #[.int .i64 op, .string ⟨p.toArray⟩, .string ⟨p2.toArray⟩, .int .i64 h, .int .i64 n, .int .i64 fl, .slice D dn dc, .slice A an ac, .slice E en ec, .slice F fn fc]) := hide (by rw [hk0]; exact HK1.out.drewN k0)
          have HRA2 : Hid (Reads wc wc.heap.size 1 A an (svs args)) := hide (by rw [hk0]; exact HRA1.out.drewN k0)
          have HRE2 : Hid (Reads wc wc.heap.size 1 E en (svs env)) := hide (by rw [hk0]; exact HRE1.out.drewN k0)
          have HRF2 : Hid (Reads wc wc.heap.size 1 F fn (ivs fds)) := hide (by rw [hk0]; exact HRF1.out.drewN k0)
          have HTF := hide hTF
          clear hk0 HB1 HK1 HRA1 HRE1 HRF1 XT2 hT hTF hfn x0 x1 x2 x3 x4 x5 x6 x7 x8 x9 hl
          have hl := HK2.out.lt
          obtain ⟨x0, x1, x2, x3, x4, x5, x6, x7, x8, x9⟩ := blk10 HK2.out
          go_wp2_with fail
          go_loop [4] (fun s4 => ∃ i : Nat, i ≤ fn ∧ s4 = .int .i64 (i : Int) ∧ Hid ((fds.take i).all wideP = true)) (fun i => fn - (intOf i).toNat)
          case atStart => exact ⟨0, Nat.zero_le _, rfl, hide rfl⟩
          case round =>
            obtain ⟨i, hi', rfl, HN⟩ := hrel
            by_cases hlt : i < fn
            · have hlt1 : (i : Int) < (fn : Int) := by omega
              have hi0 : (0 : Int) ≤ (i : Int) := by omega
              have v1 : IntKind.i64.wrap ((i : Int) + 1) = (i : Int) + 1 := by simp [IntKind.wrap, IntKind.bits, IntKind.signed]; omega
              have hil : i < fds.length := by rw [← HFL.out]; exact hlt
              obtain ⟨g, o, rfl, hg, hc1⟩ := cells_of HRF2.out (by omega) (by rw [ivs, List.length_map]; omega)
              have hcell := hc1 i _ (ivs_get fds i hil)
              have HT := hide (all_take fds i fds[i] (List.getElem?_eq_getElem hil) HN.out)
              generalize fds[i] = x at *
              have XW := hide (rwide_any x wc)
              clear hc1
              cases hw : wideP x with
              | false =>
                rw [hw] at HT XW
                clear hw
                go_wp2_with fail
                refine XW.out.mono ?_
                rintro e4 w4 ⟨rfl, rfl⟩
                go_wp2_with fail
                go_ret
                exact ⟨by rw [HV.out, HTF.out, all_false fds (i + 1) HT.out]; rfl, HB2.out⟩
              | true =>
                rw [hw] at HT XW
                clear hw
                go_wp2_with fail
                refine XW.out.mono ?_
                rintro e4 w4 ⟨rfl, rfl⟩
                clear XW hcell
                go_wp2_with fail
                go_round
                case rel => exact ⟨i + 1, by omega, by go_num, HT⟩
                case measure => simp [intOf]; omega
            · obtain rfl : i = fn := by omega
              have hlt1 : ¬ (i : Int) < (i : Int) := by omega
              have HF : Hid (fds.all wideP = true) := hide (by
                have h := HN.out
                rwa [HFL.out, List.take_length] at h)
              have XH := hide (rwide_any h wc)
              have XN := hide (rwide_any n wc)
              have XL := hide (rwide_any fl wc)
              have XA := hide (rtexts_any args 16 A an ac wc HRA2.out (by omega))
              have XE := hide (rtexts_any env 32 E en ec wc HRE2.out (by omega))
              clear HN hi' hlt
              by_cases z1 : (p.length : Int) ≤ 256
              · have z1n : decide (p.length ≤ 256) = true := by simp; omega
                by_cases z2 : (p2.length : Int) ≤ 256
                · have z2n : decide (p2.length ≤ 256) = true := by simp; omega
                  cases w1 : wideP h with
                  | false =>
                    rw [w1] at XH
                    go_wp2_with fail
                    refine XH.out.mono ?_
                    rintro e9 w9 ⟨rfl, rfl⟩
                    go_wp2_with fail
                    go_ret
                    exact ⟨by rw [HV.out, HTF.out, HF.out, z1n, z2n, w1]; rfl, HB2.out⟩
                  | true =>
                    rw [w1] at XH
                    cases w2 : wideP n with
                    | false =>
                      rw [w2] at XN
                      go_wp2_with fail
                      refine XH.out.mono ?_
                      rintro e9 w9 ⟨rfl, rfl⟩
                      go_wp2_with fail
                      refine XN.out.mono ?_
                      rintro e9 w9 ⟨rfl, rfl⟩
                      go_wp2_with fail
                      go_ret
                      exact ⟨by rw [HV.out, HTF.out, HF.out, z1n, z2n, w1, w2]; rfl, HB2.out⟩
                    | true =>
                      rw [w2] at XN
                      cases w3 : wideP fl with
                      | false =>
                        rw [w3] at XL
                        go_wp2_with fail
                        refine XH.out.mono ?_
                        rintro e9 w9 ⟨rfl, rfl⟩
                        go_wp2_with fail
                        refine XN.out.mono ?_
                        rintro e9 w9 ⟨rfl, rfl⟩
                        go_wp2_with fail
                        refine XL.out.mono ?_
                        rintro e9 w9 ⟨rfl, rfl⟩
                        go_wp2_with fail
                        go_ret
                        exact ⟨by rw [HV.out, HTF.out, HF.out, z1n, z2n, w1, w2, w3]; rfl, HB2.out⟩
                      | true =>
                        rw [w3] at XL
                        by_cases z3 : (dn : Int) ≤ 2048
                        · have z3n : decide (dn ≤ 2048) = true := by simp; omega
                          cases w4 : txsP 256 args 16 with
                          | false =>
                            rw [w4] at XA
                            go_wp2_with fail
                            refine XH.out.mono ?_
                            rintro e9 w9 ⟨rfl, rfl⟩
                            go_wp2_with fail
                            refine XN.out.mono ?_
                            rintro e9 w9 ⟨rfl, rfl⟩
                            go_wp2_with fail
                            refine XL.out.mono ?_
                            rintro e9 w9 ⟨rfl, rfl⟩
                            go_wp2_with fail
                            refine XA.out.mono ?_
                            rintro e9 w9 ⟨rfl, rfl⟩
                            go_wp2_with fail
                            go_ret
                            exact ⟨by rw [HV.out, HTF.out, HF.out, z1n, z2n, w1, w2, w3, z3n, w4]; rfl, HB2.out⟩
                          | true =>
                            rw [w4] at XA
                            cases w5 : txsP 256 env 32 with
                            | false =>
                              rw [w5] at XE
                              go_wp2_with fail
                              refine XH.out.mono ?_
                              rintro e9 w9 ⟨rfl, rfl⟩
                              go_wp2_with fail
                              refine XN.out.mono ?_
                              rintro e9 w9 ⟨rfl, rfl⟩
                              go_wp2_with fail
                              refine XL.out.mono ?_
                              rintro e9 w9 ⟨rfl, rfl⟩
                              go_wp2_with fail
                              refine XA.out.mono ?_
                              rintro e9 w9 ⟨rfl, rfl⟩
                              go_wp2_with fail
                              refine XE.out.mono ?_
                              rintro e9 w9 ⟨rfl, rfl⟩
                              go_wp2_with fail
                              go_ret
                              exact ⟨by rw [HV.out, HTF.out, HF.out, z1n, z2n, w1, w2, w3, z3n, w4, w5]; rfl, HB2.out⟩
                            | true =>
                              rw [w5] at XE
                              go_wp2_with fail
                              refine XH.out.mono ?_
                              rintro e9 w9 ⟨rfl, rfl⟩
                              go_wp2_with fail
                              refine XN.out.mono ?_
                              rintro e9 w9 ⟨rfl, rfl⟩
                              go_wp2_with fail
                              refine XL.out.mono ?_
                              rintro e9 w9 ⟨rfl, rfl⟩
                              go_wp2_with fail
                              refine XA.out.mono ?_
                              rintro e9 w9 ⟨rfl, rfl⟩
                              go_wp2_with fail
                              refine XE.out.mono ?_
                              rintro e9 w9 ⟨rfl, rfl⟩
                              go_wp2_with fail
                              go_ret
                              exact ⟨by rw [HV.out, HTF.out, HF.out, z1n, z2n, w1, w2, w3, z3n, w4, w5]; rfl, HB2.out⟩
                        · have z3n : decide (dn ≤ 2048) = false := by simp; omega
                          go_wp2_with fail
                          refine XH.out.mono ?_
                          rintro e9 w9 ⟨rfl, rfl⟩
                          go_wp2_with fail
                          refine XN.out.mono ?_
                          rintro e9 w9 ⟨rfl, rfl⟩
                          go_wp2_with fail
                          refine XL.out.mono ?_
                          rintro e9 w9 ⟨rfl, rfl⟩
                          go_wp2_with fail
                          go_ret
                          exact ⟨by rw [HV.out, HTF.out, HF.out, z1n, z2n, w1, w2, w3, z3n]; rfl, HB2.out⟩
                · have z2n : decide (p2.length ≤ 256) = false := by simp; omega
                  go_wp2_with fail
                  go_ret
                  exact ⟨by rw [HV.out, HTF.out, HF.out, z1n, z2n]; rfl, HB2.out⟩
              · have z1n : decide (p.length ≤ 256) = false := by simp; omega
                go_wp2_with fail
                go_ret
                exact ⟨by rw [HV.out, HTF.out, HF.out, z1n]; rfl, HB2.out⟩
end Go.Proofs.Ytedacfjkbfgikaa
