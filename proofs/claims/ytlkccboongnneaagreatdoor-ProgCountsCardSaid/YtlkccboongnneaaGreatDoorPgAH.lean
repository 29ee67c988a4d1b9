/- wc and tr: the law. -/
import Derived.Test.YtlkccboongnneaaGreatDoorPgAG
namespace Go.Proofs.YtlkccboongnneaaGreatDoor
open Go.RowKit
set_option linter.unusedVariables false
theorem ix_l (l : Bs) (i : Nat) (x : UInt8) (h : l[i]? = some x) (W : World) : (Instr.index 9 (.string ⟨l.toArray⟩) (.int .i64 (i : Int))).run Tryz.prog W = .ok (.int .u8 (x.toNat : Int)) W := by
  obtain ⟨hi, rfl⟩ := List.getElem?_eq_some_iff.1 h
  rw [run_index_string (P := Tryz.prog) W 9 _ .i64 (i : Int) Tryz.underlying9, dif_pos ⟨by omega, by show (i : Int) < ((l.length : Nat) : Int); omega⟩]
  simp only [Int.toNat_natCast]
  rfl
set_option maxRecDepth 100000 in
set_option maxHeartbeats 4000000 in
theorem digits_any (K : Nat) (hK3 : K ≤ 400) (w : World) :
    Calls Tryz.prog 18 #[.int .i64 (K : Int)] w fun e w' => e = .returned (.string ⟨(Lib.decDigits K ++ [10]).toArray⟩) ∧ w = w' := by
  go_enter Tryz.func18, Tryz.ntmps18
  go_wp2_with fail
  go_loopw [3, 4] (fun u3 u4 wx => ∃ (X : Nat) (l : Bs), u4 = .int .i64 (X : Int) ∧ X ≤ 400 ∧ u3 = .string ⟨l.toArray⟩ ∧ Hid (DI K X l) ∧ w = wx) (fun d k _ => (intOf k).toNat + empS d)
  case atStart => exact ⟨K, [], rfl, hK3, rfl, hide (.inl ⟨rfl, rfl⟩), rfl⟩
  case round =>
    obtain ⟨X, l, rfl, hX3, rfl, HDI, rfl⟩ := hrel
    have hl9 := HDI.out.len (by omega)
    obtain ⟨j, hj⟩ : ∃ j, X % 10 = j := ⟨_, rfl⟩
    have hj10 : j < 10 := by omega
    have hjm : (X : Int) % 10 = (j : Int) := by omega
    obtain ⟨Y, hY⟩ : ∃ Y, X / 10 = Y := ⟨_, rfl⟩
    have hYm : (X : Int) / 10 = (Y : Int) := by omega
    have hw32 : IntKind.i32.wrap (48 + (j : Int)) = 48 + (j : Int) := by simp [IntKind.wrap, IntKind.bits, IntKind.signed]; omega
    have hru : ∀ W, (convert 21 9 (.int .i32 (48 + (j : Int)))).run Tryz.prog W = .ok (.string ⟨[UInt8.ofNat (48 + j)].toArray⟩) W := fun W => by
      rw [run_convert_int_string W 21 9 .i32 _ (by rw [Tryz.underlying21]; rfl) Tryz.underlying9, rune_dig j hj10]
    have HJ := hide hj
    have HY := hide hY
    clear hj hY
    by_cases hx0 : X = 0
    · have hxn : ¬ (0 : Int) < (X : Int) := by omega
      have HX0 := hide hx0
      clear hx0
      by_cases hl0 : l = []
      · subst hl0
        have HNX : Hid (DI K 0 [48]) := hide (by have := HDI.out.next (.inr rfl); rw [HX0.out] at this; exact this)
        have h48 : Utf8.encode 48 = ⟨[48].toArray⟩ := rune_dig 0 (by omega)
        have H48 := hide h48
        clear h48
        go_wp2_with fail
        go_roundw
        case rel =>
          refine ⟨0, [48], ?_, by omega, ?_, HNX, ?_⟩
          · first | rfl | trivial
          · rw [H48.out]; rfl
          · first | rfl | trivial
        case measure =>
          have e48 := H48.out
          first | (simp [intOf, empS, e48]; done) | (simp [intOf, empS, e48]; omega)
      · have hlb : (l == []) = false := by simpa using hl0
        have HD : Hid (Lib.decDigits K = l) := hide (HDI.out.done HX0.out hl0)
        clear hl0 hjm hYm hru hw32 HDI
        go_wp2_with fail
        go_ret
        refine ⟨?_, rfl⟩
        rw [HD.out]
        first | (rw [← catB]; rfl) | simp [catB]
    · have hxp : (0 : Int) < (X : Int) := by omega
      have HNX := hide (HDI.out.next (.inl (by omega)))
      go_wp2_with fail
      go_roundw
      case rel =>
        refine ⟨Y, UInt8.ofNat (48 + j) :: l, rfl, by have := HY.out; omega, ?_, hide (by have := HNX.out; rwa [HJ.out, HY.out] at this), by first | rfl | trivial⟩
        first | (rw [catB]; simp; done) | simp [catB]
      case measure =>
        have := HY.out
        simp [intOf, empS]
        split <;> omega
set_option maxRecDepth 100000 in
set_option maxHeartbeats 16000000 in
theorem counts_any (L : Option Addr) (n c : Nat) (ps : List Bs) (a b : UInt8) (w : World) (hR : RowsP w L n ps) (hn : n ≤ 5864062014805) (hS : StB w.heap.size w) :
    Calls Tryz.prog 5 #[.slice L n c, .int .u8 (a.toNat : Int), .int .u8 (b.toNat : Int)] w fun e w' => e = .returned (.bool true) ∧ Below w.heap.size w w' := by
  have XJ := hide (joined_any L n c ps w hR hn)
  have HS := hide hS
  have HR := hide hR
  have XH := hide (fun W (hb : Below w.heap.size w W) => heads_any W ((hS.keep hb).more hb.size))
  clear hR hS
  go_enter Tryz.func5, Tryz.ntmps5
  go_wp2_with fail
  refine XJ.out.mono ?_
  rintro e w1 ⟨⟨hok, rfl⟩ | ⟨hno, rfl⟩, hb1⟩
  · have HB1 := hide hb1
    have HOK := hide hok
    clear hb1 hok XJ
    by_cases h20 : n ≤ 20
    · have hd20 : decide (n ≤ 20) = true := decide_eq_true h20
      have hlen : ps.length ≤ 20 := by rw [HR.out.1]; exact h20
      have hfl := flat_len ps HOK.out hlen
      have HW1 := hide (wc_all 9 ps HOK.out hlen)
      have HW2 := hide (wcl_all 9 ps HOK.out hlen)
      have HW3 := hide (tr_all 9 ps HOK.out hlen a b)
      obtain ⟨T, hT⟩ : ∃ T, flat ps = T := ⟨_, rfl⟩
      rw [hT] at hfl HW1 HW2 HW3 ⊢
      rw [hd20]
      have hct : T.count 10 ≤ 320 := Nat.le_trans List.count_le_length hfl
      have XD1 := hide (fun W => digits_any T.length (by omega) W)
      have XD2 := hide (fun W => digits_any (T.count 10) (by omega) W)
      obtain ⟨d1, hd1⟩ : ∃ x, Lib.decDigits T.length ++ [10] = x := ⟨_, rfl⟩
      obtain ⟨d2, hd2⟩ : ∃ x, Lib.decDigits (T.count 10) ++ [10] = x := ⟨_, rfl⟩
      obtain ⟨sw, hsw⟩ : ∃ x, swap a b T = x := ⟨_, rfl⟩
      rw [hd1] at HW1 XD1
      rw [hd2] at HW2 XD2
      rw [hsw] at HW3
      have HSW := hide hsw
      clear hd20 hT hd1 hd2 hsw
      go_wp2_with fail
      refine (beginL [119, 99] [[119, 99]] [] (some ⟨w1.heap.size, 0, none⟩) 1 none 0 (w1.alloc (.cells #[.string ⟨#[119, 99]⟩] 9)) (lit_rdA w1 #[.string ⟨#[119, 99]⟩] 9 1 _ rfl rfl) ⟨rfl, fun h => absurd h (by omega)⟩ ⟨by omega, by omega⟩).mono ?_
      rintro e w2a ⟨w2s, rfl, hI, hb⟩
      have hT := (on_alloc w1 (.cells #[.string ⟨#[119, 99]⟩] 9)).trans (hb.mono (by first | (simp; done) | (simp; omega)))
      have HBa := hide (HB1.out.trans (hT.mono HB1.out.size))
      have XR := hide (ranL (p := bornP 1 [119, 99] [[119, 99]] [] []) HW1.out (fit_of (by decide)) (by decide) (.inr (.inr (.inr (.inl rfl)))) (show nWc ≠ nYes by decide) w2s L n c w2a w hI HS.out HBa.out (HR.out.below HBa.out) HOK.out h20 (show i64R 9 from ⟨by decide, by decide⟩))
      clear hI hb hT
      go_wp2_with fail
      refine XR.out.mono ?_
      rintro e w2 ⟨rfl, hb⟩
      have HBw2 := hide (HBa.out.trans (hb.mono HBa.out.size))
      clear hb XR HBa
      go_wp2_with fail
      refine (beginL [119, 99] [[119, 99], [45, 108]] [] (some ⟨w2.heap.size, 0, none⟩) 2 none 0 (w2.alloc (.cells #[.string ⟨#[119, 99]⟩, .string ⟨#[45, 108]⟩] 9)) (lit_rdA w2 #[.string ⟨#[119, 99]⟩, .string ⟨#[45, 108]⟩] 9 2 _ rfl rfl) ⟨rfl, fun h => absurd h (by omega)⟩ ⟨by omega, by omega⟩).mono ?_
      rintro e w3a ⟨w3s, rfl, hI, hb⟩
      have hT := (on_alloc w2 (.cells #[.string ⟨#[119, 99]⟩, .string ⟨#[45, 108]⟩] 9)).trans (hb.mono (by first | (simp; done) | (simp; omega)))
      have HBa := hide (HBw2.out.trans (hT.mono HBw2.out.size))
      have XR := hide (ranL (p := bornP 1 [119, 99] [[119, 99], [45, 108]] [] []) HW2.out (fit_of (by decide)) (by decide) (.inr (.inr (.inr (.inl rfl)))) (show nWc ≠ nYes by decide) w3s L n c w3a w hI HS.out HBa.out (HR.out.below HBa.out) HOK.out h20 (show i64R 9 from ⟨by decide, by decide⟩))
      clear hI hb hT
      go_wp2_with fail
      refine XR.out.mono ?_
      rintro e w3 ⟨rfl, hb⟩
      have HBw3 := hide (HBa.out.trans (hb.mono HBa.out.size))
      clear hb XR HBa
      clear HW1 HW2 HBw2
      go_wp2_with fail
      go_loopw [15, 16, 17] (fun u15 u16 u17 wx => ∃ (i : Nat), i ≤ T.length ∧ u17 = .int .i64 (i : Int) ∧ u15 = .int .i64 ((T.take i).count 10 : Nat) ∧ u16 = .string ⟨(swap a b (T.take i)).toArray⟩ ∧ Hid (Below w.heap.size w wx)) (fun _ _ i _ => T.length - (intOf i).toNat)
      case atStart => exact ⟨0, Nat.zero_le _, rfl, by simp, by simp [swap], HBw3⟩
      case round =>
        obtain ⟨i, hi, rfl, rfl, rfl, HB⟩ := hrel
        by_cases hiT : i = T.length
        · subst hiT
          rw [List.take_of_length_le (Nat.le_refl _), HSW.out]
          have hcvA : (convert 24 9 (.slice (some ⟨wr.heap.size, 0, none⟩) 1 1)).run Tryz.prog (wr.alloc (.cells #[.int .u8 (a.toNat : Int)] 5)) = .ok (.string ⟨[a].toArray⟩) (wr.alloc (.cells #[.int .u8 (a.toNat : Int)] 5)) := run_string_of (P := Tryz.prog) _ _ 24 9 5 _ 1 1 [a] Tryz.underlying24 Tryz.underlying5 Tryz.underlying9 (lit_rdA wr #[.int .u8 (a.toNat : Int)] 5 1 _ rfl rfl)
          have hcvB : (convert 24 9 (.slice (some ⟨wr.heap.size + 1, 0, none⟩) 1 1)).run Tryz.prog ((wr.alloc (.cells #[.int .u8 (a.toNat : Int)] 5)).alloc (.cells #[.int .u8 (b.toNat : Int)] 5)) = .ok (.string ⟨[b].toArray⟩) ((wr.alloc (.cells #[.int .u8 (a.toNat : Int)] 5)).alloc (.cells #[.int .u8 (b.toNat : Int)] 5)) := by
            have := run_string_of (P := Tryz.prog) _ _ 24 9 5 _ 1 1 [b] Tryz.underlying24 Tryz.underlying5 Tryz.underlying9 (lit_rdA (wr.alloc (.cells #[.int .u8 (a.toNat : Int)] 5)) #[.int .u8 (b.toNat : Int)] 5 1 _ rfl rfl)
            rw [World.size_alloc] at this
            exact this
          go_wp2_with fail
          refine (beginL [116, 114] [[116, 114], [a], [b]] [] (some ⟨wr.heap.size + 2, 0, none⟩) 3 none 0 (((wr.alloc (.cells #[.int .u8 (a.toNat : Int)] 5)).alloc (.cells #[.int .u8 (b.toNat : Int)] 5)).alloc (.cells #[.string ⟨#[116, 114]⟩, .string ⟨[a].toArray⟩, .string ⟨[b].toArray⟩] 9)) (by have := lit_rdA ((wr.alloc (.cells #[.int .u8 (a.toNat : Int)] 5)).alloc (.cells #[.int .u8 (b.toNat : Int)] 5)) #[.string ⟨#[116, 114]⟩, .string ⟨[a].toArray⟩, .string ⟨[b].toArray⟩] 9 3 _ rfl rfl; rw [show ((wr.alloc (.cells #[.int .u8 (a.toNat : Int)] 5)).alloc (.cells #[.int .u8 (b.toNat : Int)] 5)).heap.size = wr.heap.size + 2 from by simp] at this; exact this) ⟨rfl, fun h => absurd h (by omega)⟩ ⟨by omega, by omega⟩).mono ?_
          rintro e w4a ⟨w4s, rfl, hI, hb⟩
          have hT := (((on_alloc wr (.cells #[.int .u8 (a.toNat : Int)] 5)).alloc (by simp) (.cells #[.int .u8 (b.toNat : Int)] 5)).alloc (by first | (simp; done) | (simp; omega)) (.cells #[.string ⟨#[116, 114]⟩, .string ⟨[a].toArray⟩, .string ⟨[b].toArray⟩] 9)).trans (hb.mono (by first | (simp; done) | (simp; omega)))
          have HBa := hide (HB.out.trans (hT.mono HB.out.size))
          have XR := hide (ranL (p := bornP 1 [116, 114] [[116, 114], [a], [b]] [] []) HW3.out ⟨by show 3 ≤ _; omega, by show 0 ≤ _; omega, by show 0 ≤ _; omega, by show 0 ≤ _; omega, rfl, by intro x hx; simp [bornP] at hx; rcases hx with rfl | rfl | rfl <;> simp, r0, r0, r0, by show 2 ≤ _; omega⟩ (by show (Lib.join [[a], [b]] [32]).length ≤ _; simp [Lib.join, List.intercalate]) (.inr (.inr (.inr (.inr (.inr rfl))))) (show nTr ≠ nYes by decide) w4s L n c w4a w hI HS.out HBa.out (HR.out.below HBa.out) HOK.out h20 (show i64R 9 from ⟨by decide, by decide⟩))
          clear hI hb hT
          go_wp2_with fail
          refine XR.out.mono ?_
          rintro e w4 ⟨rfl, hb⟩
          have HBw4 := hide (HBa.out.trans (hb.mono HBa.out.size))
          clear hb XR HBa
          clear HW3 HB hcvA hcvB
          have XD1w := hide (XD1.out w4)
          have XD2w := hide (XD2.out w4)
          have XHw := hide (XH.out w4 HBw4.out)
          have hL1 : (⟨T.toArray⟩ : ByteArray).size = T.length := rfl
          clear XD1 XD2 XH
          go_wp2_with fail
          refine XD1w.out.mono ?_
          rintro e w5 ⟨rfl, rfl⟩
          clear XD1w
          go_wp2_with fail
          refine XD2w.out.mono ?_
          rintro e w5 ⟨rfl, rfl⟩
          clear XD2w
          go_wp2_with fail
          refine XHw.out.mono ?_
          rintro e w6 ⟨rfl, hb⟩
          have HB6 := hide (HBw4.out.trans (hb.mono HBw4.out.size))
          clear hb XHw
          go_wp2_with fail
          go_ret
          exact ⟨rfl, HB6.out⟩
        · have hlt : (i : Int) < (T.length : Int) := by omega
          obtain ⟨x, hx⟩ : ∃ x, T[i]? = some x := ⟨_, List.getElem?_eq_getElem (by omega)⟩
          have hix := fun W => ix_l T i x hx W
          have htk : T.take (i + 1) = T.take i ++ [x] := by rw [List.take_add_one, hx]; rfl
          have hex : (⟨T.toArray⟩ : ByteArray).extract i (i + 1) = ⟨[x].toArray⟩ := by
            rw [ext_two]
            congr 2
            rw [show i + 1 - i = 1 from by omega]
            obtain ⟨hi2, hxe⟩ := List.getElem?_eq_some_iff.1 hx
            rw [List.drop_eq_getElem_cons hi2, hxe]
            rfl
          have hcvB : (convert 24 9 (.slice (some ⟨wr.heap.size, 0, none⟩) 1 1)).run Tryz.prog (wr.alloc (.cells #[.int .u8 (b.toNat : Int)] 5)) = .ok (.string ⟨[b].toArray⟩) (wr.alloc (.cells #[.int .u8 (b.toNat : Int)] 5)) := run_string_of (P := Tryz.prog) _ _ 24 9 5 _ 1 1 [b] Tryz.underlying24 Tryz.underlying5 Tryz.underlying9 (lit_rdA wr #[.int .u8 (b.toNat : Int)] 5 1 _ rfl rfl)
          have hcl : (T.take i).count 10 ≤ 320 := by
            have h1 := List.count_le_length (a := (10 : UInt8)) (l := T.take i)
            rw [List.length_take] at h1
            omega
          have hsl : (swap a b (T.take i)).length ≤ 320 := by rw [swap_len, List.length_take]; omega
          obtain ⟨ct, hct2⟩ : ∃ x, (T.take i).count 10 = x := ⟨_, rfl⟩
          obtain ⟨sw2, hsw2⟩ : ∃ x, swap a b (T.take i) = x := ⟨_, rfl⟩
          rw [hct2] at hcl ⊢
          rw [hsw2] at hsl ⊢
          have HC2 : Hid ((T.take (i + 1)).count 10 = ct + if x = 10 then 1 else 0) := hide (by rw [htk, List.count_append, hct2]; by_cases h : x = 10 <;> simp [h])
          have HS2 : Hid (swap a b (T.take (i + 1)) = sw2 ++ [if x = a then b else x]) := hide (by rw [htk, swap_app, hsw2]; rfl)
          clear hx htk hct2 hsw2
          by_cases h10 : x = 10
          · have h10b : ((x.toNat : Int) == 10) = true := by rw [h10]; rfl
            have HX10 := hide h10
            have HC3 : Hid ((T.take (i + 1)).count 10 = ct + 1) := hide (by rw [HC2.out, if_pos h10])
            clear h10
            by_cases hxa : x = a
            · have hab : ((x.toNat : Int) == (a.toNat : Int)) = true := by rw [hxa]; simp
              have HS3 : Hid (swap a b (T.take (i + 1)) = sw2 ++ [b]) := hide (by rw [HS2.out, if_pos hxa])
              clear hxa
              go_wp2_with fail
              go_roundw
              case rel => exact ⟨i + 1, by omega, by simp, by rw [HC3.out]; simp, by rw [HS3.out, catB], hide (HB.out.alloc HB.out.size _)⟩
              case measure => simp [intOf]; omega
            · have hab : ((x.toNat : Int) == (a.toNat : Int)) = false := beq_eq_false_iff_ne.2 (by
                intro e
                exact hxa (UInt8.toNat_inj.1 (by omega)))
              have HS3 : Hid (swap a b (T.take (i + 1)) = sw2 ++ [x]) := hide (by rw [HS2.out, if_neg hxa])
              clear hxa
              go_wp2_with fail
              go_roundw
              case rel => exact ⟨i + 1, by omega, by simp, by rw [HC3.out]; simp, by rw [HS3.out, catB], HB⟩
              case measure => simp [intOf]; omega
          · have h10b : ((x.toNat : Int) == 10) = false := beq_eq_false_iff_ne.2 (by
              intro e
              exact h10 (UInt8.toNat_inj.1 (by show x.toNat = 10; omega)))
            have HC3 : Hid ((T.take (i + 1)).count 10 = ct) := hide (by rw [HC2.out, if_neg h10]; rfl)
            clear h10
            by_cases hxa : x = a
            · have hab : ((x.toNat : Int) == (a.toNat : Int)) = true := by rw [hxa]; simp
              have HS3 : Hid (swap a b (T.take (i + 1)) = sw2 ++ [b]) := hide (by rw [HS2.out, if_pos hxa])
              clear hxa
              go_wp2_with fail
              go_roundw
              case rel => exact ⟨i + 1, by omega, by simp, by rw [HC3.out]; (try rfl), by rw [HS3.out, catB], hide (HB.out.alloc HB.out.size _)⟩
              case measure => simp [intOf]; omega
            · have hab : ((x.toNat : Int) == (a.toNat : Int)) = false := beq_eq_false_iff_ne.2 (by
                intro e
                exact hxa (UInt8.toNat_inj.1 (by omega)))
              have HS3 : Hid (swap a b (T.take (i + 1)) = sw2 ++ [x]) := hide (by rw [HS2.out, if_neg hxa])
              clear hxa
              go_wp2_with fail
              go_roundw
              case rel => exact ⟨i + 1, by omega, by simp, by rw [HC3.out]; (try rfl), by rw [HS3.out, catB], HB⟩
              case measure => simp [intOf]; omega
    · have hd20 : decide (n ≤ 20) = false := decide_eq_false h20
      rw [hd20]
      have XH1 := hide (XH.out w1 HB1.out)
      clear XH hd20
      go_wp2_with fail
      refine XH1.out.mono ?_
      rintro e w6 ⟨rfl, hb⟩
      have HB6 := hide (HB1.out.trans (hb.mono HB1.out.size))
      clear hb XH1
      go_wp2_with fail
      go_ret
      exact ⟨rfl, HB6.out⟩
  · have HB1 := hide hb1
    have XH1 := hide (XH.out w1 hb1)
    clear hb1 hno XJ XH
    go_wp2_with fail
    refine XH1.out.mono ?_
    rintro e w6 ⟨rfl, hb⟩
    have HB6 := hide (HB1.out.trans (hb.mono HB1.out.size))
    clear hb XH1
    go_wp2_with fail
    go_ret
    exact ⟨rfl, HB6.out⟩
end Go.Proofs.YtlkccboongnneaaGreatDoor
