/- The law on brackets. -/
import Derived.Test.YtglgldmofibedaaGreatDoorArV
namespace Go.Proofs.YtglgldmofibedaaGreatDoor
open Go.RowKit
set_option linter.unusedVariables false
set_option maxRecDepth 100000 in
set_option maxHeartbeats 1000000 in
theorem fewN_any (V : List Tok) (A : Option Addr) (n c : Nat) (w : World) (hA : Reads w w.heap.size 1 A n (svs V)) :
    Calls Tryz.prog 13 #[.slice A n c] w fun e w' => e = .returned (.bool (fewB V)) ∧ w = w' := by
  have hl := rd_len hA
  have HA := hide hA
  have HL := hide hl
  clear hA
  by_cases h60 : n ≤ 60
  · have HF : Hid (fewB V = (V.drop 0).all fun v => decide (v.length ≤ 600)) := hide (by unfold fewB; rw [decide_eq_true (by omega)]; rfl)
    have h60' : (n : Int) ≤ 60 := by omega
    clear hl
    go_enter Tryz.func13, Tryz.ntmps13
    go_wp2_with fail
    go_loopw [3] (fun u3 wx => ∃ k : Nat, k ≤ n ∧ u3 = .int .i64 (k : Int) ∧ wx = w ∧ Hid (fewB V = (V.drop k).all fun v => decide (v.length ≤ 600))) (fun u3 _ => n - (intOf u3).toNat)
    case atStart => exact ⟨0, Nat.zero_le _, rfl, rfl, HF⟩
    case round =>
      clear HF
      obtain ⟨k, hk, rfl, rfl, HN⟩ := hrel
      by_cases hlt : k < n
      · obtain ⟨g, o, rfl, hg, hc⟩ := rd_cells HA.out (by omega)
        have hkl : k < V.length := by have := HL.out; omega
        have hck := hc k hkl
        have hia := fun W => str_at g o n c k (k : Int) rfl hlt W
        have hlt' : (k : Int) < (n : Int) := by omega
        have HN1 : Hid (fewB V = (decide (V[k].length ≤ 600) && (V.drop (k + 1)).all fun v => decide (v.length ≤ 600))) := hide (by rw [HN.out, List.drop_eq_getElem_cons hkl]; rfl)
        clear HN hc
        generalize V[k] = x at *
        by_cases h6 : x.length ≤ 600
        · have h6' : ¬ (600 : Int) < (x.length : Int) := by omega
          have HN2 : Hid (fewB V = (V.drop (k + 1)).all fun v => decide (v.length ≤ 600)) := hide (by rw [HN1.out, decide_eq_true h6]; rfl)
          clear HN1 h6
          go_wp2_with fail
          go_roundw
          case rel => exact ⟨k + 1, by omega, by go_num, by first | rfl | trivial, HN2⟩
          case measure => simp [intOf]; omega
        · have h6' : (600 : Int) < (x.length : Int) := by omega
          have HN2 : Hid (fewB V = false) := hide (by rw [HN1.out, decide_eq_false h6]; rfl)
          clear HN1 h6
          go_wp2_with fail
          go_ret
          exact ⟨by rw [HN2.out]; rfl, by first | rfl | trivial⟩
      · have hlt' : ¬ (k : Int) < (n : Int) := by omega
        have HE : Hid (fewB V = true) := hide (by rw [HN.out, List.drop_of_length_le (by have := HL.out; omega)]; rfl)
        clear HN
        go_wp2_with fail
        go_ret
        exact ⟨by rw [HE.out]; rfl, by first | rfl | trivial⟩
  · have HF : Hid (fewB V = false) := hide (by unfold fewB; rw [decide_eq_false (by omega)]; rfl)
    have h60' : ¬ (n : Int) ≤ 60 := by omega
    have h0 : (0 : Int) < (n : Int) := by omega
    clear hl
    go_enter Tryz.func13, Tryz.ntmps13
    go_wp2_with fail
    refine wp_loop_rounds 1 ?_
    rw [rounds_succ]
    go_wp2_with fail
    go_ret
    exact ⟨ret_b rfl (by rw [HF.out]; exact decide_eq_false (by omega)), rfl⟩
theorem tokL (s : Tok) (w : World) (hs : s.length ≤ 1000000) (hS : StdO w) :
    Calls Tryz.prog 14 #[.string ⟨s.toArray⟩] w fun e w' => (∃ A c b, e = .returned (.tuple #[.slice A ((toksP s).getD []).length c, .bool b])) ∧ Below w.heap.size w w' :=
  (tokens_any s w hs hS).mono fun e w' h => by
    refine ⟨?_, h.2⟩
    have h1 := h.1
    unfold TokEnd at h1
    cases hk : toksP s with
    | none => rw [hk] at h1; exact ⟨none, 0, false, h1⟩
    | some ts =>
      rw [hk] at h1
      obtain ⟨A, n, c, rfl, hO⟩ := h1
      have hl := hO.len
      subst hl
      exact ⟨A, c, true, rfl⟩
set_option maxRecDepth 100000 in
set_option maxHeartbeats 16000000 in
theorem brackets_any (s : Tok) (V : List Tok) (A : Option Addr) (n c : Nat) (w : World) (hS : StdA w) (hV : Reads w w.heap.size 1 A n (svs V)) :
    Calls Tryz.prog 5 #[.string ⟨s.toArray⟩, .slice A n c] w fun e w' => e = .returned (.bool true) ∧ Below w.heap.size w w' := by
  have XH := hide (fun W (hW : StdA W) => heads_any W hW)
  have HS := hide hS
  have HV := hide hV
  by_cases h3 : 300 < s.length
  · have h3' : (300 : Int) < (s.length : Int) := by omega
    clear hS hV
    go_enter Tryz.func5, Tryz.ntmps5
    go_wp2_with fail
    refine (XH.out _ HS.out).mono ?_
    rintro e w1 ⟨rfl, hb⟩
    have HB := hide hb
    clear hb
    go_wp2_with fail
    go_ret
    exact ⟨rfl, HB.out⟩
  have h3' : ¬ (300 : Int) < (s.length : Int) := by omega
  have XF := hide (fewN_any V A n c w hV)
  cases hf : fewB V with
  | false =>
    rw [hf] at XF
    clear hS hV hf
    go_enter Tryz.func5, Tryz.ntmps5
    go_wp2_with fail
    refine XF.out.mono ?_
    rintro e w1 ⟨rfl, rfl⟩
    go_wp2_with fail
    refine (XH.out _ HS.out).mono ?_
    rintro e w1 ⟨rfl, hb⟩
    have HB := hide hb
    clear hb
    go_wp2_with fail
    go_ret
    exact ⟨rfl, HB.out⟩
  | true =>
    have hfy := fewB_yes hf
    have hpl := hide (brackets_plain s V (by omega))
    rw [hf] at XF
    have XT := hide (tokL s w (by omega) hS.ops)
    have HVS : Hid (∀ v ∈ V, v.length ≤ 1000) := hide fun v hv => by have := hfy.2 v hv; omega
    have HVL : Hid (V.length ≤ 1000) := hide (by have := hfy.1; omega)
    have hsl : s.length ≤ 300 := by omega
    have X1 := hide (fun W hW hR => eval_any s V A n c W (by omega) hW hR HVL.out HVS.out)
    have X2 := hide (fun W hW hR => eval_any ([40] ++ s ++ [41]) V A n c W (by simp; omega) hW hR HVL.out HVS.out)
    have X3 := hide (fun W hW hR => eval_any ([45, 32, 45, 40] ++ s ++ [41]) V A n c W (by simp; omega) hW hR HVL.out HVS.out)
    have f1 := hide (cat_b [40] s)
    have f2 := hide (cat_b ([40] ++ s) [41])
    have g1 := hide (cat_b [45, 32, 45, 40] s)
    have g2 := hide (cat_b ([45, 32, 45, 40] ++ s) [41])
    clear hS hV hf hfy
    obtain ⟨m, hm⟩ : ∃ m, ((toksP s).getD []).length = m := ⟨_, rfl⟩
    rw [hm] at XT
    have HM : Hid (((toksP s).getD [] = [] → m = 0)) := hide fun h => by rw [← hm, h]; rfl
    clear hm
    generalize (toksP s).getD [] = tks at *
    generalize evalP ([40] ++ s ++ [41]) V = q2 at *
    generalize evalP ([45, 32, 45, 40] ++ s ++ [41]) V = q3 at *
    generalize evalP s V = q1 at *
    obtain ⟨a1, b1⟩ := q1
    obtain ⟨a2, b2⟩ := q2
    obtain ⟨a3, b3⟩ := q3
    dsimp only at X1 X2 X3 hpl
    go_enter Tryz.func5, Tryz.ntmps5
    go_wp2_with fail
    refine XF.out.mono ?_
    rintro e w1 ⟨rfl, rfl⟩
    go_wp2_with fail
    refine XT.out.mono ?_
    rintro e w1 ⟨⟨At, ct, bt, rfl⟩, hb1⟩
    have HB1 := hide hb1
    have HS1 := hide (HS.out.below hb1)
    have HV1 := hide ((HV.out.below hb1).more hb1.size)
    clear hb1 HS HV XF XT
    go_wp2_with fail
    refine (X1.out _ HS1.out HV1.out).mono ?_
    rintro e w2 ⟨rfl, hb2⟩
    have HB2 := hide (below_more HB1.out (Nat.le_refl _) hb2)
    have HS2 := hide (HS1.out.below hb2)
    have HV2 := hide ((HV1.out.below hb2).more hb2.size)
    clear hb2 HB1 HS1 HV1 X1
    go_wp2_with fail
    rw [f1.out, f2.out]
    refine (X2.out _ HS2.out HV2.out).mono ?_
    rintro e w3 ⟨rfl, hb3⟩
    have HB3 := hide (below_more HB2.out (Nat.le_refl _) hb3)
    have HS3 := hide (HS2.out.below hb3)
    have HV3 := hide ((HV2.out.below hb3).more hb3.size)
    clear hb3 HB2 HS2 HV2 X2
    go_wp2_with fail
    rw [g1.out, g2.out]
    refine (X3.out _ HS3.out HV3.out).mono ?_
    rintro e w4 ⟨rfl, hb4⟩
    have HB4 := hide (below_more HB3.out (Nat.le_refl _) hb4)
    have XH4 := hide (XH.out w4 (HS3.out.below hb4))
    clear hb4 HB3 HS3 HV3 X3 XH f1 f2 g1 g2 HVS HVL
    by_cases k0 : m = 0
    · have k0' : ((m : Int) == 0) = true := by simpa using k0
      clear hpl HM
      go_wp2_with fail
      refine XH4.out.mono ?_
      rintro e w5 ⟨rfl, hb5⟩
      have HB5 := hide (below_more HB4.out (Nat.le_refl _) hb5)
      clear hb5
      go_wp2_with fail
      go_ret
      exact ⟨rfl, HB5.out⟩
    have k0' : ((m : Int) == 0) = false := by simpa using k0
    by_cases kb150 : b1 = 50
    · have kb150' : (b1 == 50) = true := by simpa using kb150
      clear hpl HM
      go_wp2_with fail
      refine XH4.out.mono ?_
      rintro e w5 ⟨rfl, hb5⟩
      have HB5 := hide (below_more HB4.out (Nat.le_refl _) hb5)
      clear hb5
      go_wp2_with fail
      go_ret
      exact ⟨rfl, HB5.out⟩
    have kb150' : (b1 == 50) = false := by simpa using kb150
    by_cases kb151 : b1 = 51
    · have kb151' : (b1 == 51) = true := by simpa using kb151
      clear hpl HM
      go_wp2_with fail
      refine XH4.out.mono ?_
      rintro e w5 ⟨rfl, hb5⟩
      have HB5 := hide (below_more HB4.out (Nat.le_refl _) hb5)
      clear hb5
      go_wp2_with fail
      go_ret
      exact ⟨rfl, HB5.out⟩
    have kb151' : (b1 == 51) = false := by simpa using kb151
    by_cases kb251 : b2 = 51
    · have kb251' : (b2 == 51) = true := by simpa using kb251
      clear hpl HM
      go_wp2_with fail
      refine XH4.out.mono ?_
      rintro e w5 ⟨rfl, hb5⟩
      have HB5 := hide (below_more HB4.out (Nat.le_refl _) hb5)
      clear hb5
      go_wp2_with fail
      go_ret
      exact ⟨rfl, HB5.out⟩
    have kb251' : (b2 == 51) = false := by simpa using kb251
    by_cases kb351 : b3 = 51
    · have kb351' : (b3 == 51) = true := by simpa using kb351
      clear hpl HM
      go_wp2_with fail
      refine XH4.out.mono ?_
      rintro e w5 ⟨rfl, hb5⟩
      have HB5 := hide (below_more HB4.out (Nat.le_refl _) hb5)
      clear hb5
      go_wp2_with fail
      go_ret
      exact ⟨rfl, HB5.out⟩
    have kb351' : (b3 == 51) = false := by simpa using kb351
    obtain ⟨h1, h2⟩ : ((a2, b2) : Int × Int) = (a1, b1) ∧ ((a3, b3) : Int × Int) = (a1, b1) := by
      rcases hpl.out with h | h | h | h | h | h
      · exact absurd (HM.out h) k0
      · exact absurd h kb150
      · exact absurd h kb151
      · exact absurd h kb251
      · exact absurd h kb351
      · exact h
    injection h1 with e1 e2
    injection h2 with e3 e4
    subst e1; subst e2; subst e3; subst e4
    clear hpl HM k0 kb150 kb151 kb251 kb351
    go_wp2_with fail
    refine XH4.out.mono ?_
    rintro e w5 ⟨rfl, hb5⟩
    have HB5 := hide (below_more HB4.out (Nat.le_refl _) hb5)
    clear hb5
    go_wp2_with fail
    go_ret
    exact ⟨rfl, HB5.out⟩
theorem brackets_b (s : ByteArray) (V : List Tok) (A : Option Addr) (n c : Nat) (w : World) (hS : StdA w) (hV : Reads w w.heap.size 1 A n (svs V)) :
    Calls Tryz.prog 5 #[.string s, .slice A n c] w fun e w' => e = .returned (.bool true) ∧ Below w.heap.size w w' := by
  obtain ⟨l, rfl⟩ := bs_of s
  exact brackets_any l V A n c w hS hV
end Go.Proofs.YtglgldmofibedaaGreatDoor
