/- proto.Check. -/
import Derived.Test.YtedacfjkbfgikaaPrV
import Derived.Test.YtedacfjkbfgikaaPrW
import Derived.Test.YtedacfjkbfgikaaPrX
namespace Go.Proofs.Ytedacfjkbfgikaa
open Go.RowKit
set_option linter.unusedVariables false
theorem blk10 {w : World} {g : Nat} {t : TypeId} {a0 a1 a2 a3 a4 a5 a6 a7 a8 a9 : Value} (H : Blk w g t #[a0, a1, a2, a3, a4, a5, a6, a7, a8, a9]) : w.cell? ⟨g, 0, none⟩ = some a0 ∧ w.cell? ⟨g, 1, none⟩ = some a1 ∧ w.cell? ⟨g, 2, none⟩ = some a2 ∧ w.cell? ⟨g, 3, none⟩ = some a3 ∧ w.cell? ⟨g, 4, none⟩ = some a4 ∧ w.cell? ⟨g, 5, none⟩ = some a5 ∧ w.cell? ⟨g, 6, none⟩ = some a6 ∧ w.cell? ⟨g, 7, none⟩ = some a7 ∧ w.cell? ⟨g, 8, none⟩ = some a8 ∧ w.cell? ⟨g, 9, none⟩ = some a9 :=
  ⟨H.cell 0, H.cell 1, H.cell 2, H.cell 3, H.cell 4, H.cell 5, H.cell 6, H.cell 7, H.cell 8, H.cell 9⟩
theorem longerf_any (m : Int) (w : World) :
    Calls Try.prog 69 #[.int .i64 m] w fun e w' => e = .returned (.func (.func 101) #[] #[.pointer (some ⟨w.heap.size, 0, none⟩)]) ∧ Blk w' w.heap.size 3 #[.int .i64 m] ∧ Below w.heap.size w w' := by
  have hk := Blk.new w 3 #[.int .i64 m]
  have hb := (Below.refl w.heap.size w).alloc (Nat.le_refl _) (.cells #[.int .i64 m] 3)
  go_enter Try.func69, Try.ntmps69
  go_wp2_with fail
  go_ret
  exact ⟨rfl, hk, hb⟩
def RQ.v (r : RQ) (D A E F : Option Addr) (dn dc an ac en ec fn fc : Nat) : Value := .agg #[.int .i64 r.op, .string ⟨r.p.toArray⟩, .string ⟨r.p2.toArray⟩, .int .i64 r.h, .int .i64 r.n, .int .i64 r.fl, .slice D dn dc, .slice A an ac, .slice E en ec, .slice F fn fc]
def RQ.used (r : RQ) : Int := usedQ r.h r.n r.fl r.p r.p2 r.d.length r.args.length r.env.length r.fds.length
def RQ.ok (r : RQ) : Bool := (reqU r.op).2 && (bits .andNot .i64 r.used (reqU r.op).1 == 0) && (wideP r.h && wideP r.n && wideP r.fl) && r.fds.all wideP && !(r.op == 7 && !(r.fds.length == 3)) && !(decide (2048 < r.d.length) || decide (16 < r.args.length) || decide (32 < r.env.length)) && !anyL 256 ([r.p, r.p2] ++ r.args ++ r.env)
def i64ok (n : Int) : Prop := -9223372036854775808 ≤ n ∧ n ≤ 9223372036854775807
set_option maxRecDepth 100000 in
set_option maxHeartbeats 8000000 in
theorem check_any (r : RQ) (D A E F : Option Addr) (dn dc an ac en ec fn fc : Nat) (w : World) (h3 : Reads w w.heap.size 1 D dn (bv r.d)) (h4 : Reads w w.heap.size 1 A an (svs r.args)) (h5 : Reads w w.heap.size 1 E en (svs r.env)) (h6 : Reads w w.heap.size 1 F fn (ivs r.fds))
    (ho : i64ok r.op) (hn : dn ≤ 100000 ∧ an ≤ 1000 ∧ en ≤ 1000 ∧ fn ≤ 100000) :
    Calls Try.prog 15 #[r.v D A E F dn dc an ac en ec fn fc] w fun e w' => e = .returned (.bool r.ok) ∧ Below w.heap.size w w' := by
  have hdl : r.d.length = dn := by simpa [bv] using h3.1
  have hal : r.args.length = an := by simpa [svs] using h4.1
  have hel : r.env.length = en := by simpa [svs] using h5.1
  have hfl : r.fds.length = fn := by simpa [ivs] using h6.1
  unfold RQ.v RQ.ok RQ.used
  rw [hdl, hal, hel, hfl]
  obtain ⟨op, p, p2, h, n, fl, d, args, env, fds⟩ := r
  dsimp only at *
  generalize hu : usedQ h n fl p p2 dn an en fn = U
  generalize hq : reqU op = q
  obtain ⟨q1, q2⟩ := q
  have HL := hide (And.intro hdl (And.intro hal (And.intro hel hfl)))
  have H3 := hide h3
  have H4 := hide h4
  have H5 := hide h5
  have H6 := hide h6
  have XR := hide (fun V => req_look op V ho.1 ho.2)
  rw [hq] at XR
  have XU := hide (fun V => used_any op h n fl p p2 D A E F dn dc an ac en ec fn fc V)
  rw [hu] at XU
  clear hdl hal hel hfl h3 h4 h5 h6 hu hq
  go_enter Try.func15, Try.ntmps15
  go_wp2_with fail
  have hk := Blk.new w 26 #[.int .i64 op, .string ⟨p.toArray⟩, .string ⟨p2.toArray⟩, .int .i64 h, .int .i64 n, .int .i64 fl, .slice D dn dc, .slice A an ac, .slice E en ec, .slice F fn fc]
  have hb := (Below.refl w.heap.size w).alloc (Nat.le_refl _) (.cells #[.int .i64 op, .string ⟨p.toArray⟩, .string ⟨p2.toArray⟩, .int .i64 h, .int .i64 n, .int .i64 fl, .slice D dn dc, .slice A an ac, .slice E en ec, .slice F fn fc] 26)
  generalize w.alloc (.cells #[.int .i64 op, .string ⟨p.toArray⟩, .string ⟨p2.toArray⟩, .int .i64 h, .int .i64 n, .int .i64 fl, .slice D dn dc, .slice A an ac, .slice E en ec, .slice F fn fc] 26) = W at *
  have HK := hide hk
  have HB := hide hb
  have hW : w.heap.size < W.heap.size := hk.lt
  have allS : Hid (∀ V, Below W.heap.size W V → V.cell? ⟨w.heap.size, 0, none⟩ = some (.int .i64 op)) := hide (fun V hV => (hV.cell (p := ⟨w.heap.size, 0, none⟩) hW).trans ((hk.cell 0).trans rfl))
  clear hk hb
  have kW := hide (Below.refl W.heap.size W)
  go_region_held3 (fun V => V.cell? ⟨w.heap.size, 0, none⟩ = some (.int .i64 op))
    (first | with_reducible exact allS.out _ (Below.drew kW.out) | with_reducible exact allS.out _ kW.out)
    (first
      | (go_at_call 26; with_reducible refine (XR.out _).mono ?_
         rintro e wx ⟨rfl, kx, lx, -⟩
         have lx0 : (Instr.lookup 57 (.map (some W.heap.size)) (.int .i64 op) true).run Try.prog wx = .ok (.tuple #[.int .i64 q1, .bool q2]) wx := lx 0
         have kX := hide (below_more (Below.drew kW.out) (Nat.le_refl _) kx)
         clear kW
         have kW := hide kX.out
         clear kx kX lx))
  all_goals
    cases q2
    · go_wp2_with fail
      go_ret
      exact ⟨rfl, HB.out.trans (kW.out.mono HB.out.size)⟩
    · have HK1 := hide (HK.out.below kW.out hW)
      have HB1 := hide (HB.out.trans (kW.out.mono HB.out.size))
      obtain ⟨x0, x1, x2, x3, x4, x5, x6, x7, x8, x9⟩ := blk10 HK1.out
      clear allS kW HK HB XR
      go_wp2_with fail
      refine (XU.out _).mono ?_
      rintro e w3 ⟨rfl, kx⟩
      have HK3 := hide (HK1.out.below kx HK1.out.lt)
      have HB3 := hide (below_more HB1.out (Nat.le_refl _) kx)
      clear x0 x1 x2 x3 x4 x5 x6 x7 x8 x9 kx HK1 HB1 XU
      obtain ⟨x0, x1, x2, x3, x4, x5, x6, x7, x8, x9⟩ := blk10 HK3.out
      by_cases hu : bits .andNot .i64 U q1 = 0
      · go_wp2_with fail
        have hkN := Blk.new w3 3 #[.int .i64 h, .int .i64 n, .int .i64 fl]
        have hkl := hkN.lt
        have HK4 := hide (HK3.out.alloc (.cells #[.int .i64 h, .int .i64 n, .int .i64 fl] 3))
        have HB4 := hide (HB3.out.alloc HB3.out.size (.cells #[.int .i64 h, .int .i64 n, .int .i64 fl] 3))
        generalize w3.alloc (.cells #[.int .i64 h, .int .i64 n, .int .i64 fl] 3) = W4 at *
        generalize w3.heap.size = B3 at *
        have HKN := hide hkN
        clear hkN x0 x1 x2 x3 x4 x5 x6 x7 x8 x9 HK3 HB3
        obtain ⟨x0, x1, x2, x3, x4, x5, x6, x7, x8, x9⟩ := blk10 HK4.out
        go_loop [33] (fun s33 => ∃ i : Nat, i ≤ 3 ∧ s33 = .int .i64 (i : Int) ∧ Hid (([h, n, fl].take i).all wideP = true)) (fun i => 3 - (intOf i).toNat)
        case atStart => exact ⟨0, Nat.zero_le _, rfl, hide rfl⟩
        case round =>
          obtain ⟨i, hi', rfl, HN⟩ := hrel
          by_cases hlt : i < 3
          · have hlt1 : (i : Int) < 3 := by omega
            obtain ⟨x, hx⟩ : ∃ x, [h, n, fl][i]? = some x := ⟨[h, n, fl][i]'hlt, List.getElem?_eq_getElem _⟩
            have hcell : W4.cell? ⟨B3, i, none⟩ = some (.int .i64 x) := by
              rw [HKN.out.cell i]
              match i, hlt, hx with
              | 0, _, hx => simp at hx; rw [hx]; rfl
              | 1, _, hx => simp at hx; rw [hx]; rfl
              | 2, _, hx => simp at hx; rw [hx]; rfl
            have HT : Hid (([h, n, fl].take (i + 1)).all wideP = wideP x) := hide (by
              rw [List.take_add_one, hx, List.all_append, HN.out]; simp)
            have XI := hide (range_any x W4)
            have v1 : IntKind.i64.wrap ((i : Int) + 1) = (i : Int) + 1 := by simp [IntKind.wrap, IntKind.bits, IntKind.signed]; omega
            clear hx
            cases hw : wideP x
            · rw [hw] at HT XI
              go_wp2_with fail
              refine XI.out.mono ?_
              rintro e4 w4 ⟨rfl, rfl⟩
              go_wp2_with fail
              go_ret
              have hf : (wideP h && wideP n && wideP fl) = false := by
                have h1 : [h, n, fl].all wideP = false := by
                  rw [← List.take_append_drop (i + 1) [h, n, fl], List.all_append, HT.out]; rfl
                simpa [Bool.and_assoc] using h1
              exact ⟨by rw [hf]; simp, HB4.out⟩
            · rw [hw] at HT XI
              go_wp2_with fail
              refine XI.out.mono ?_
              rintro e4 w4 ⟨rfl, rfl⟩
              clear hcell XI
              go_wp2_with fail
              go_round
              case rel => exact ⟨i + 1, by omega, by go_num, HT⟩
              case measure => simp [intOf]; omega
          · obtain rfl : i = 3 := by omega
            have hlt1 : ¬ ((3 : Nat) : Int) < 3 := by omega
            have HW3 : Hid ((wideP h && wideP n && wideP fl) = true) := hide (by simpa [Bool.and_assoc] using HN.out)
            clear HN
            go_wp2_with fail
            go_loop [44] (fun s44 => ∃ i : Nat, i ≤ fn ∧ s44 = .int .i64 (i : Int) ∧ Hid ((fds.take i).all wideP = true)) (fun i => fn - (intOf i).toNat)
            case atStart => exact ⟨0, Nat.zero_le _, rfl, hide rfl⟩
            case round =>
              obtain ⟨i, hi', rfl, HN⟩ := hrel
              by_cases hlt : i < fn
              · have hlt2 : (i : Int) < (fn : Int) := by omega
                obtain ⟨ad, u, rfl, hab, hu2, hcell⟩ := (H6.out.below HB4.out).at_ hlt
                obtain ⟨x, hx⟩ : ∃ x, fds[i]? = some x := ⟨fds[i]'(by rw [HL.out.2.2.2]; exact hlt), List.getElem?_eq_getElem _⟩
                have hux : u = .int .i64 x := by
                  have h := hu2
                  simp only [ivs, List.getElem?_map, hx, Option.map_some, Option.some.injEq] at h
                  exact h.symm
                subst hux
                have HT : Hid ((fds.take (i + 1)).all wideP = wideP x) := hide (by
                  rw [List.take_add_one, hx, List.all_append, HN.out]; simp)
                have XI := hide (range_any x W4)
                have v1 : IntKind.i64.wrap ((i : Int) + 1) = (i : Int) + 1 := by simp [IntKind.wrap, IntKind.bits, IntKind.signed]; omega
                clear hx hu2
                cases hw : wideP x
                · rw [hw] at HT XI
                  go_wp2_with fail
                  refine XI.out.mono ?_
                  rintro e4 w4 ⟨rfl, rfl⟩
                  go_wp2_with fail
                  go_ret
                  have hf : fds.all wideP = false := by
                    rw [← List.take_append_drop (i + 1) fds, List.all_append, HT.out]; rfl
                  exact ⟨by rw [hf]; simp, HB4.out⟩
                · rw [hw] at HT XI
                  go_wp2_with fail
                  refine XI.out.mono ?_
                  rintro e4 w4 ⟨rfl, rfl⟩
                  clear hcell XI
                  go_wp2_with fail
                  go_round
                  case rel => exact ⟨i + 1, by omega, by go_num, HT⟩
                  case measure => simp [intOf]; omega
              · obtain rfl : i = fn := by omega
                have hlt2 : ¬ (i : Int) < (i : Int) := by omega
                have HF : Hid (fds.all wideP = true) := hide (by
                  have := HN.out
                  rwa [List.take_of_length_le (by rw [HL.out.2.2.2]; exact Nat.le_refl _)] at this)
                clear HN
                cases h7 : (op == 7 && !((i : Int) == 3))
                · by_cases h70 : op = 7
                  · have h71 : i = 3 := by
                      have : (i : Int) = 3 := by simpa [h70] using h7
                      omega
                    subst h70
                    subst h71
                    have hWl := HB4.out.size
                    by_cases hd : 2048 < dn
                    · have hd1 : (2048 : Int) < (dn : Int) := by omega
                      go_wp2_with fail
                      go_ret
                      exact ⟨by simp, HB4.out⟩
                    · have hd1 : ¬ (2048 : Int) < (dn : Int) := by omega
                      by_cases ha : 16 < an
                      · have ha1 : (16 : Int) < (an : Int) := by omega
                        go_wp2_with fail
                        go_ret
                        exact ⟨by simp, HB4.out⟩
                      · have ha1 : ¬ (16 : Int) < (an : Int) := by omega
                        by_cases he : 32 < en
                        · have he1 : (32 : Int) < (en : Int) := by omega
                          go_wp2_with fail
                          go_ret
                          exact ⟨by simp, HB4.out⟩
                        · have he1 : ¬ (32 : Int) < (en : Int) := by omega
                          have XC0 := (concat_any [⟨some ⟨W4.heap.size, 0, none⟩, 2, 2, [p, p2]⟩, ⟨A, an, ac, args⟩, ⟨E, en, ec, env⟩] (W4.alloc (.cells #[.string ⟨p.toArray⟩, .string ⟨p2.toArray⟩] 9)).heap.size 3 ((W4.alloc (.cells #[.string ⟨p.toArray⟩, .string ⟨p2.toArray⟩] 9)).alloc (.cells #[.slice (some ⟨W4.heap.size, 0, none⟩) 2 2, .slice A an ac, .slice E en ec] 23)) (Blk.new _ _ _) (by
                            have bA : Below w.heap.size w ((W4.alloc (.cells #[.string ⟨p.toArray⟩, .string ⟨p2.toArray⟩] 9)).alloc (.cells #[.slice (some ⟨W4.heap.size, 0, none⟩) 2 2, .slice A an ac, .slice E en ec] 23)) := (HB4.out.alloc hWl _).alloc (by simp; omega) _
                            intro r hr
                            simp only [List.mem_cons, List.mem_nil_iff, or_false] at hr
                            rcases hr with rfl | rfl | rfl
                            · exact ⟨Reads.of_own (((Blk.new W4 9 #[.string ⟨p.toArray⟩, .string ⟨p2.toArray⟩]).alloc _).own (base := 0) (cap := 2) (Nat.zero_le _) (by unfold maxLen; omega) rfl), by show 2 ≤ 1000; omega⟩
                            · exact ⟨(H4.out.below bA).more bA.size, hn.2.1⟩
                            · exact ⟨(H5.out.below bA).more bA.size, hn.2.2.1⟩) (by simp) 3 rfl)
                          obtain ⟨-, -, -, -, -, -, -, y7, y8, -⟩ := blk10 (HK4.out.alloc (.cells #[.string ⟨p.toArray⟩, .string ⟨p2.toArray⟩] 9))
                          have HB6 : Hid (Below w.heap.size w ((W4.alloc (.cells #[.string ⟨p.toArray⟩, .string ⟨p2.toArray⟩] 9)).alloc (.cells #[.slice (some ⟨W4.heap.size, 0, none⟩) 2 2, .slice A an ac, .slice E en ec] 23))) := hide ((HB4.out.alloc hWl _).alloc (by simp; omega) _)
                          obtain ⟨rs, hrs⟩ : ∃ rs : List Rw, [⟨some ⟨W4.heap.size, 0, none⟩, 2, 2, [p, p2]⟩, ⟨A, an, ac, args⟩, ⟨E, en, ec, env⟩] = rs := ⟨_, rfl⟩
                          have hsm : sumN rs ≤ 100000 := by rw [← hrs]; simp [sumN]; omega
                          have hcr : catR rs = [p, p2] ++ args ++ env := by rw [← hrs]; simp [catR]
                          rw [hrs] at XC0
                          have hs0 : (W4.alloc (.cells #[.string ⟨p.toArray⟩, .string ⟨p2.toArray⟩] 9)).heap.size = W4.heap.size + 1 := by simp
                          rw [hs0] at XC0
                          generalize sumN rs = S at XC0 hsm
                          rw [hcr] at XC0
                          have XC := hide XC0
                          clear XC0 hrs hcr
                          go_wp2_with fail
                          refine XC.out.mono ?_
                          rintro e7 w7 ⟨A7, c7, rfl, ho7, hb7⟩
                          have HB7 := hide (below_more HB6.out (Nat.le_refl _) hb7)
                          have HO7 := hide ho7
                          clear ho7 hb7 XC HB6
                          have XL := hide (longerf_any 256 w7)
                          go_wp2_with fail
                          refine XL.out.mono ?_
                          rintro e8 w8 ⟨rfl, hk8, hb8⟩
                          have HB8 := hide (below_more HB7.out (Nat.le_refl _) hb8)
                          have HO8 := hide (HO7.out.below hb8)
                          have XF := hide (containsf_any w7.heap.size 256 ([p, p2] ++ args ++ env) A7 _ c7 w8 hk8 HO8.out.rd hsm)
                          clear hk8 hb8 XL
                          go_wp2_with fail
                          refine XF.out.mono ?_
                          rintro e9 w9 ⟨rfl, rfl⟩
                          clear XF HO8 HO7
                          go_wp2_with fail
                          go_ret
                          exact ⟨by simp [hd, ha, he, hu, HW3.out, HF.out], HB8.out⟩
                  · have h71 : (op == 7) = false := by simpa using h70
                    have hWl := HB4.out.size
                    by_cases hd : 2048 < dn
                    · have hd1 : (2048 : Int) < (dn : Int) := by omega
                      go_wp2_with fail
                      go_ret
                      exact ⟨by simp, HB4.out⟩
                    · have hd1 : ¬ (2048 : Int) < (dn : Int) := by omega
                      by_cases ha : 16 < an
                      · have ha1 : (16 : Int) < (an : Int) := by omega
                        go_wp2_with fail
                        go_ret
                        exact ⟨by simp, HB4.out⟩
                      · have ha1 : ¬ (16 : Int) < (an : Int) := by omega
                        by_cases he : 32 < en
                        · have he1 : (32 : Int) < (en : Int) := by omega
                          go_wp2_with fail
                          go_ret
                          exact ⟨by simp, HB4.out⟩
                        · have he1 : ¬ (32 : Int) < (en : Int) := by omega
                          have XC0 := (concat_any [⟨some ⟨W4.heap.size, 0, none⟩, 2, 2, [p, p2]⟩, ⟨A, an, ac, args⟩, ⟨E, en, ec, env⟩] (W4.alloc (.cells #[.string ⟨p.toArray⟩, .string ⟨p2.toArray⟩] 9)).heap.size 3 ((W4.alloc (.cells #[.string ⟨p.toArray⟩, .string ⟨p2.toArray⟩] 9)).alloc (.cells #[.slice (some ⟨W4.heap.size, 0, none⟩) 2 2, .slice A an ac, .slice E en ec] 23)) (Blk.new _ _ _) (by
                            have bA : Below w.heap.size w ((W4.alloc (.cells #[.string ⟨p.toArray⟩, .string ⟨p2.toArray⟩] 9)).alloc (.cells #[.slice (some ⟨W4.heap.size, 0, none⟩) 2 2, .slice A an ac, .slice E en ec] 23)) := (HB4.out.alloc hWl _).alloc (by simp; omega) _
                            intro r hr
                            simp only [List.mem_cons, List.mem_nil_iff, or_false] at hr
                            rcases hr with rfl | rfl | rfl
                            · exact ⟨Reads.of_own (((Blk.new W4 9 #[.string ⟨p.toArray⟩, .string ⟨p2.toArray⟩]).alloc _).own (base := 0) (cap := 2) (Nat.zero_le _) (by unfold maxLen; omega) rfl), by show 2 ≤ 1000; omega⟩
                            · exact ⟨(H4.out.below bA).more bA.size, hn.2.1⟩
                            · exact ⟨(H5.out.below bA).more bA.size, hn.2.2.1⟩) (by simp) 3 rfl)
                          obtain ⟨-, -, -, -, -, -, -, y7, y8, -⟩ := blk10 (HK4.out.alloc (.cells #[.string ⟨p.toArray⟩, .string ⟨p2.toArray⟩] 9))
                          have HB6 : Hid (Below w.heap.size w ((W4.alloc (.cells #[.string ⟨p.toArray⟩, .string ⟨p2.toArray⟩] 9)).alloc (.cells #[.slice (some ⟨W4.heap.size, 0, none⟩) 2 2, .slice A an ac, .slice E en ec] 23))) := hide ((HB4.out.alloc hWl _).alloc (by simp; omega) _)
                          obtain ⟨rs, hrs⟩ : ∃ rs : List Rw, [⟨some ⟨W4.heap.size, 0, none⟩, 2, 2, [p, p2]⟩, ⟨A, an, ac, args⟩, ⟨E, en, ec, env⟩] = rs := ⟨_, rfl⟩
                          have hsm : sumN rs ≤ 100000 := by rw [← hrs]; simp [sumN]; omega
                          have hcr : catR rs = [p, p2] ++ args ++ env := by rw [← hrs]; simp [catR]
                          rw [hrs] at XC0
                          have hs0 : (W4.alloc (.cells #[.string ⟨p.toArray⟩, .string ⟨p2.toArray⟩] 9)).heap.size = W4.heap.size + 1 := by simp
                          rw [hs0] at XC0
                          generalize sumN rs = S at XC0 hsm
                          rw [hcr] at XC0
                          have XC := hide XC0
                          clear XC0 hrs hcr
                          go_wp2_with fail
                          refine XC.out.mono ?_
                          rintro e7 w7 ⟨A7, c7, rfl, ho7, hb7⟩
                          have HB7 := hide (below_more HB6.out (Nat.le_refl _) hb7)
                          have HO7 := hide ho7
                          clear ho7 hb7 XC HB6
                          have XL := hide (longerf_any 256 w7)
                          go_wp2_with fail
                          refine XL.out.mono ?_
                          rintro e8 w8 ⟨rfl, hk8, hb8⟩
                          have HB8 := hide (below_more HB7.out (Nat.le_refl _) hb8)
                          have HO8 := hide (HO7.out.below hb8)
                          have XF := hide (containsf_any w7.heap.size 256 ([p, p2] ++ args ++ env) A7 _ c7 w8 hk8 HO8.out.rd hsm)
                          clear hk8 hb8 XL
                          go_wp2_with fail
                          refine XF.out.mono ?_
                          rintro e9 w9 ⟨rfl, rfl⟩
                          clear XF HO8 HO7
                          go_wp2_with fail
                          go_ret
                          exact ⟨by simp [hd, ha, he, hu, HW3.out, HF.out, h70], HB8.out⟩
                · have h71 : op = 7 := by simpa using (Bool.and_eq_true_iff.1 h7).1
                  have h72 : ((i : Int) == 3) = false := by simpa using (Bool.and_eq_true_iff.1 h7).2
                  have h73 : (i == 3) = false := by
                    simp at h72 ⊢; omega
                  have h74 : ¬ i = 3 := by simpa using h73
                  subst h71
                  go_wp2_with fail
                  go_ret
                  exact ⟨by simp, HB4.out⟩
      · go_wp2_with fail
        go_ret
        exact ⟨by simp [hu], HB3.out⟩
end Go.Proofs.Ytedacfjkbfgikaa
