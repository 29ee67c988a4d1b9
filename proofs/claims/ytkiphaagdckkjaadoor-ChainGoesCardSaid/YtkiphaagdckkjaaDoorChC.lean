/- The law ChainCuts. -/
import Derived.Test.YtkiphaagdckkjaaDoorChB
namespace Go.Proofs.YtkiphaagdckkjaaDoor
open Go.RowKit
set_option linter.unusedVariables false
theorem all_take (l : List Rec) (j : Nat) (h : LB) : (allP h l).take (lenP (l.take j)) = allP h (l.take j) := by
  have e : allP h l = allP h (l.take j) ++ allP (lastP h (l.take j)) (l.drop j) := by rw [← all_append, List.take_append_drop]
  rw [e, List.take_left' (all_length _ _)]
theorem len_take (l : List Rec) (j : Nat) : lenP (l.take j) ≤ lenP l := by
  have e : lenP l = lenP (l.take j) + lenP (l.drop j) := by rw [← lenP_append, List.take_append_drop]
  omega
theorem rsl_to (A : Option Addr) (n c q : Nat) (k : IntKind) (h : Int) (hh : h = (q : Int)) (hq : q ≤ c) (W : World) : (Instr.slice 34 (.slice A n c) none (some (.int k h)) none).run Tryd.prog W = .ok (.slice A q c) W := by
  subst hh
  have hE : Tryd.prog.elem 34 = 24 := by simp [Program.elem, Tryd.underlying34]
  rw [run_slice_h W 34 A n c (slice_ht Tryd.underlying34) k (q : Int) (by omega) (by omega), hE, run_sizeOf_n sizeRec W]
  simp only [Result.andThen, sliced, Int.toNat_natCast, Nat.zero_mul, Nat.sub_zero]
  cases A with
  | none => simp
  | some a =>
    obtain ⟨b, o, s⟩ := a
    by_cases h0 : c = 0
    · rw [if_pos h0]
    · rw [if_neg h0]
      first | rfl | simp [Addr.add]
/-- What the two calls of Head say of a cut. -/
theorem heads_of {N : List Rec} (hk : okP 0 N) (q : Nat) : headP (allP zero32 N) ((cutsP N q : Nat) : Int) = ((lenP (N.take (cutsP N q)) : Int), true) ∧ (headP (allP zero32 N) ((cutsP N q : Nat) + 1 : Int) = (0, false) ∨ ∃ m : Nat, headP (allP zero32 N) ((cutsP N q : Nat) + 1 : Int) = ((m : Int), true) ∧ q < m) ∧ verP ((allP zero32 N).take (lenP (N.take (cutsP N q)))) = true := by
  have h1 := scanB_all N hk
  have h2 := cuts_le N q
  refine ⟨?_, ?_, ?_⟩
  · unfold headP
    rw [h1]
    rw [if_neg (by omega), if_pos (by dsimp only; omega), Int.toNat_natCast]
  · by_cases h3 : cutsP N q < N.length
    · right
      refine ⟨lenP (N.take (cutsP N q + 1)), ?_, cuts_next N q h3⟩
      unfold headP
      rw [h1]
      rw [if_neg (by omega), if_pos (by dsimp only; omega), show ((cutsP N q : Nat) + 1 : Int).toNat = cutsP N q + 1 by omega]
    · left
      unfold headP
      rw [h1]
      rw [if_neg (by omega), if_neg (by dsimp only; omega)]
  · have h4 := scanB_all (N.take (cutsP N q)) (ok_take hk _)
    unfold verP
    rw [all_take, h4, all_length]
    simp
set_option maxRecDepth 100000 in
set_option maxHeartbeats 16000000 in
theorem cuts_law (A : Option Addr) (n c : Nat) (cu : Int) (l : List RV) (w : World) (h1 : RowR w A n l) (hnm : n ≤ maxLen) (hS : Std w) (hT : Tabs w) :
    Calls Tryd.prog 6 #[.slice A n c, .int .i64 cu] w fun e w' => e = .returned (.bool true) ∧ Below w.heap.size w w' := by
  have XF := hide (few_any A n c l w h1 hnm)
  have H1 := hide h1
  have HS := hide hS
  have HT := hide hT
  have hl := h1.len
  have HL := hide hl
  clear h1 hS hT hl hnm
  cases hf : fewP (l.map RV.r) with
  | false =>
    rw [hf] at XF
    clear hf H1 HL
    go_enter Tryd.func6, Tryd.ntmps6
    go_wp2_with fail
    refine XF.out.mono ?_
    rintro e1 w1 ⟨rfl, hb1⟩
    have HB1 := hide hb1
    have XH := hide (heads_any w1 (HS.out.below hb1) (HT.out.below hb1))
    clear hb1 XF
    go_wp2_with fail
    refine XH.out.mono ?_
    rintro e2 w2 ⟨rfl, hb2⟩
    have HB2 := hide (below_more HB1.out (Nat.le_refl _) hb2)
    clear hb2 XH
    go_wp2_with fail
    go_ret
    exact ⟨rfl, HB2.out⟩
  | true =>
    rw [hf] at XF
    have HF := hide hf
    have hn20 : n ≤ 20 := by
      unfold fewP at hf
      rw [Bool.and_eq_true, decide_eq_true_eq, List.length_map, HL.out] at hf
      exact hf.1
    have hok : okP 0 (numP 0 (l.map RV.r)) := by
      refine ok_num _ _ ?_ (by rw [List.length_map, HL.out]; omega)
      unfold fewP at hf
      rw [Bool.and_eq_true] at hf
      exact hf.2
    have hln : (numP 0 (l.map RV.r)).length = n := by rw [num_length, List.length_map, HL.out]
    have hall := all_length (numP 0 (l.map RV.r)) zero32
    obtain ⟨N, hN⟩ : ∃ N, numP 0 (l.map RV.r) = N := ⟨_, rfl⟩
    have XM := hide (fun W (hW : Below w.heap.size w W) => made_any A n c l W (H1.out.below hW) HF.out (HS.out.below hW) (HT.out.below hW))
    unfold RetMade at XM
    rw [hN] at XM hln hall hok
    have HOK := hide hok
    have HLN := hide hln
    have HALL := hide hall
    clear hf hok hN hln hall H1 HF
    obtain ⟨BS, hBS⟩ : ∃ b, allP zero32 N = b := ⟨_, rfl⟩
    have HBS := hide hBS
    rw [hBS] at XM HALL
    clear hBS
    go_enter Tryd.func6, Tryd.ntmps6
    go_wp2_with fail
    refine XF.out.mono ?_
    rintro e1 w1 ⟨rfl, hb1⟩
    have HB1 := hide hb1
    have XM1 := hide (XM.out w1 hb1)
    clear hb1 XF XM
    go_wp2_with fail
    refine XM1.out.mono ?_
    rintro e2 w2 ⟨A2, nb, cb, O, co, lo, rfl, g1, g2, g3, g4, g5, g6, g7⟩
    have HB2 := hide (below_more HB1.out (Nat.le_refl _) g7)
    have HNB : Hid (lenP N = nb) := hide (by rw [← HALL.out]; exact g1.len)
    have HR2 := hide g1
    have HO2 := hide g4
    have HO2e := hide g6
    have hcb := g2
    have hco := g5
    clear g1 g2 g4 g5 g6 g7 XM1
    by_cases kcut : cu < 0 ∨ (nb : Int) < cu
    · have hcase : cu < 0 ∨ (¬ cu < 0 ∧ (nb : Int) < cu) := by omega
      clear kcut
      have XH := hide (heads_any w2 (HS.out.below HB2.out) (HT.out.below HB2.out))
      rcases hcase with kc1 | ⟨kc1, kc2⟩
      all_goals
        go_wp2_with fail
        refine XH.out.mono ?_
        rintro e6 w6 ⟨rfl, g14⟩
        have HB6 := hide (below_more HB2.out (Nat.le_refl _) g14)
        clear g14 XH
        go_wp2_with fail
        go_ret
        exact ⟨rfl, HB6.out⟩
    · have kc1 : ¬ cu < 0 := by omega
      have kc2 : ¬ (nb : Int) < cu := by omega
      clear kcut
      obtain ⟨q, rfl⟩ : ∃ q : Nat, cu = (q : Int) := ⟨cu.toNat, by omega⟩
      have hq : q ≤ nb := by omega
      have s1 := fun W => sl_to A2 nb cb q .i64 (q : Int) rfl (by omega) W
      have XS := hide (scan_any A2 q cb (BS.take q) w2 (rd_to HR2.out hq) (by omega) (by omega) (HS.out.below HB2.out) (HT.out.below HB2.out))
      unfold ScanEnd at XS
      have hsc := scanB_cut N HOK.out q
      obtain ⟨hh1, hh2, hh3⟩ := heads_of HOK.out q
      have hjl := cuts_le N q
      have hjq := cuts_len N q
      have hje := len_take N (cutsP N q)
      rw [HLN.out] at hjl
      rw [HNB.out] at hje
      obtain ⟨j, hj⟩ : ∃ j, cutsP N q = j := ⟨_, rfl⟩
      rw [hj] at hsc hh1 hh2 hh3 hjl hjq hje
      obtain ⟨E, hE⟩ : ∃ E, lenP (N.take j) = E := ⟨_, rfl⟩
      rw [hE] at hsc hh1 hh3 hjq hje
      rw [HBS.out] at hsc hh1 hh2 hh3
      rw [hsc] at XS
      dsimp only at XS
      have HH1 := hide hh1
      have HH2 := hide hh2
      have HH3 := hide hh3
      clear hsc hj hE hh1 hh2 hh3
      have kq1 : ¬ (n : Int) < (j : Int) := by omega
      have kq2 : ¬ (q : Int) < (E : Int) := by omega
      go_wp2_with fail
      refine XS.out.mono ?_
      rintro e3 w3 ⟨M, mo, D, dn, lm, rfl, g8, g9, g10, g11⟩
      have hlm : lm.length = j := by
        have := congrArg List.length g9
        rw [List.length_map, List.length_take, HLN.out] at this
        omega
      rw [hlm] at g8 ⊢
      have HB3 := hide (below_more HB2.out (Nat.le_refl _) g11)
      have HR3 := hide (rb HR2.out g11)
      have XR := hide (rows_same M O j mo co lm (lo.take j) w3 g8.row ((HO2.out.below g11).take hjl) (by rw [g9, List.map_take, HO2e.out]) (by omega))
      have s2 := fun W => rsl_to O n co j .i64 (j : Int) rfl (by omega) W
      clear g8 g9 g10 g11 XS hlm HR2 HO2 HO2e s1
      go_wp2_with fail
      refine XR.out.mono ?_
      rintro e4 w4 ⟨rfl, g12⟩
      have HB4 := hide (below_more HB3.out (Nat.le_refl _) g12)
      have HR4 := hide (rb HR3.out g12)
      have XA := hide (head_any A2 nb cb BS (j : Int) w4 HR4.out hcb (by omega) (HS.out.below HB4.out) (HT.out.below HB4.out))
      rw [HH1.out] at XA
      dsimp only at XA
      clear g12 XR HR3 s2
      go_wp2_with fail
      refine XA.out.mono ?_
      rintro e5 w5 ⟨rfl, g12⟩
      have HB5 := hide (below_more HB4.out (Nat.le_refl _) g12)
      have HR5 := hide (rb HR4.out g12)
      have XB := hide (head_any A2 nb cb BS ((j : Int) + 1) w5 HR5.out hcb (by omega) (HS.out.below HB5.out) (HT.out.below HB5.out))
      have v1 : IntKind.i64.wrap ((j : Int) + 1) = (j : Int) + 1 := by simp [IntKind.wrap, IntKind.bits, IntKind.signed]; omega
      have s3 := fun W => sl_to A2 nb cb E .i64 (E : Int) rfl (by omega) W
      clear g12 XA HR4
      have hcs := HH2.out
      rcases hcs with hc | ⟨m, hc, hm⟩
      all_goals
        rw [hc] at XB
        dsimp only at XB
        clear hc
        go_wp2_with fail
        refine XB.out.mono ?_
        rintro e6 w6 ⟨rfl, g12⟩
        have HB6 := hide (below_more HB5.out (Nat.le_refl _) g12)
        have HR6 := hide (rb HR5.out g12)
        have XV := hide (verify_any A2 E cb (BS.take E) w6 (rd_to HR6.out (by omega)) (by omega) (by omega) (HS.out.below HB6.out) (HT.out.below HB6.out))
        rw [HH3.out] at XV
        clear g12 XB HR5
        try have kq3 : (q : Int) < (m : Int) := by omega
        go_wp2_with fail
        refine XV.out.mono ?_
        rintro e7 w7 ⟨rfl, g13⟩
        have HB7 := hide (below_more HB6.out (Nat.le_refl _) g13)
        have XH := hide (heads_any w7 (HS.out.below HB7.out) (HT.out.below HB7.out))
        clear g13 XV HR6
        go_wp2_with fail
        refine XH.out.mono ?_
        rintro e8 w8 ⟨rfl, g14⟩
        have HB8 := hide (below_more HB7.out (Nat.le_refl _) g14)
        clear g14 XH
        go_wp2_with fail
        go_ret
        exact ⟨rfl, HB8.out⟩
end Go.Proofs.YtkiphaagdckkjaaDoor
