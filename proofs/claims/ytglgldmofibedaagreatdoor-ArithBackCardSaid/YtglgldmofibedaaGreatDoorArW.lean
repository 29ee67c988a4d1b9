/- The law on written numbers. -/
import Derived.Test.YtglgldmofibedaaGreatDoorArV
namespace Go.Proofs.YtglgldmofibedaaGreatDoor
open Go.RowKit
set_option linter.unusedVariables false
theorem apply_e2 (a b : Int) : ∀ o ∈ lawOps, (applyP o a b).2 = 0 ∨ applyP o a b = (0, 32) := by
  intro o ho
  simp only [lawOps, List.mem_cons, List.not_mem_nil, or_false] at ho
  rcases ho with rfl | rfl | rfl | rfl | rfl | rfl | rfl | rfl | rfl | rfl | rfl | rfl | rfl | rfl | rfl | rfl | rfl | rfl <;> simp [applyP, cmpP] <;> (split <;> simp_all)
theorem evN (s : Tok) (v : Int × Int) (hs : s.length ≤ 1000) (h : evalP s [] = v) (W : World) (hW : StdA W) : Calls Tryz.prog 12 #[.string ⟨s.toArray⟩, .slice none 0 0] W fun e w' => e = .returned (.tuple #[.int .i64 v.1, .int .i64 v.2]) ∧ Below W.heap.size W w' := by
  have k := eval_any s [] none 0 0 W (by omega) hW Reads.none_ (by decide) (fun _ h => by cases h)
  rw [h] at k
  exact k
theorem row18 (W : World) : Reads (W.alloc (.cells #[.string ⟨#[43]⟩, .string ⟨#[45]⟩, .string ⟨#[42]⟩, .string ⟨#[47]⟩, .string ⟨#[37]⟩, .string ⟨#[60, 60]⟩, .string ⟨#[62, 62]⟩, .string ⟨#[60]⟩, .string ⟨#[62]⟩, .string ⟨#[60, 61]⟩, .string ⟨#[62, 61]⟩, .string ⟨#[61, 61]⟩, .string ⟨#[33, 61]⟩, .string ⟨#[38]⟩, .string ⟨#[94]⟩, .string ⟨#[124]⟩, .string ⟨#[38, 38]⟩, .string ⟨#[124, 124]⟩] 9)) (W.heap.size + 1) 1 (some ⟨W.heap.size, 0, none⟩) 18 (svs lawOps) := row_lit W lawOps (by decide)
theorem ge_max {x : Int} (h : (Lit.int .i64 x).wf = true) : -9223372036854775808 ≤ x ∧ x ≤ 9223372036854775807 := by
  have e1 : IntKind.i64.min = -9223372036854775808 := rfl
  have e2 : IntKind.i64.max = 9223372036854775807 := rfl
  simp only [Lit.wf, e1, e2, Bool.and_eq_true, decide_eq_true_eq] at h
  exact h
set_option maxRecDepth 100000 in
set_option maxHeartbeats 8000000 in
theorem back_no (a b n : Int) (w : World) (hS : StdA w) (h : n < 0 ∨ (0 ≤ n ∧ 18 ≤ n) ∨ (0 ≤ n ∧ n < 18 ∧ a = -9223372036854775808) ∨ (0 ≤ n ∧ n < 18 ∧ a ≠ -9223372036854775808 ∧ b = -9223372036854775808)) :
    Calls Tryz.prog 4 #[.int .i64 a, .int .i64 b, .int .i64 n] w fun e w' => e = .returned (.bool true) ∧ Below w.heap.size w w' := by
  have XH := hide (fun W (hW : StdA W) => heads_any W hW)
  have HS := hide hS
  clear hS
  rcases h with h0 | ⟨h0, h1⟩ | ⟨h0, h1, ha⟩ | ⟨h0, h1, ha, hb⟩
  · have h0' := h0
    go_enter Tryz.func4, Tryz.ntmps4
    go_wp2_with fail
    refine (XH.out _ (HS.out.alloc _)).mono ?_
    rintro e w1 ⟨rfl, hb⟩
    have HB := hide (((Below.refl w.heap.size w).alloc (Nat.le_refl _) _).trans (hb.mono (by simp)))
    clear hb
    go_wp2_with fail
    go_ret
    exact ⟨rfl, HB.out⟩
  · have h0' : ¬ n < 0 := by omega
    go_enter Tryz.func4, Tryz.ntmps4
    go_wp2_with fail
    refine (XH.out _ (HS.out.alloc _)).mono ?_
    rintro e w1 ⟨rfl, hb⟩
    have HB := hide (((Below.refl w.heap.size w).alloc (Nat.le_refl _) _).trans (hb.mono (by simp)))
    clear hb
    go_wp2_with fail
    go_ret
    exact ⟨rfl, HB.out⟩
  · have h0' : ¬ n < 0 := by omega
    have h1' : ¬ (18 : Int) ≤ n := by omega
    have ha' : (a == -9223372036854775808) = true := by simpa using ha
    clear ha
    go_enter Tryz.func4, Tryz.ntmps4
    go_wp2_with fail
    refine (XH.out _ (HS.out.alloc _)).mono ?_
    rintro e w1 ⟨rfl, hb⟩
    have HB := hide (((Below.refl w.heap.size w).alloc (Nat.le_refl _) _).trans (hb.mono (by simp)))
    clear hb
    go_wp2_with fail
    go_ret
    exact ⟨rfl, HB.out⟩
  · have h0' : ¬ n < 0 := by omega
    have h1' : ¬ (18 : Int) ≤ n := by omega
    have ha' : (a == -9223372036854775808) = false := by simpa using ha
    have hb' : (b == -9223372036854775808) = true := by simpa using hb
    clear ha hb
    go_enter Tryz.func4, Tryz.ntmps4
    go_wp2_with fail
    refine (XH.out _ (HS.out.alloc _)).mono ?_
    rintro e w1 ⟨rfl, hb⟩
    have HB := hide (((Below.refl w.heap.size w).alloc (Nat.le_refl _) _).trans (hb.mono (by simp)))
    clear hb
    go_wp2_with fail
    go_ret
    exact ⟨rfl, HB.out⟩
set_option maxRecDepth 100000 in
set_option maxHeartbeats 16000000 in
theorem back_yes (a b : Int) (n : Nat) (w : World) (hS : StdA w) (ha : i64R a) (hb : i64R b) (hn : n < 18) (ha0 : a ≠ -9223372036854775808) (hb0 : b ≠ -9223372036854775808) :
    Calls Tryz.prog 4 #[.int .i64 a, .int .i64 b, .int .i64 (n : Int)] w fun e w' => e = .returned (.bool true) ∧ Below w.heap.size w w' := by
  have XH := hide (fun W (hW : StdA W) => heads_any W hW)
  have HS := hide hS
  have h0' : ¬ (n : Int) < 0 := by omega
  have h1' : ¬ (18 : Int) ≤ (n : Int) := by omega
  have ha' : (a == -9223372036854775808) = false := by simpa using ha0
  have hb' : (b == -9223372036854775808) = false := by simpa using hb0
  have hmem : lawOps[n]'hn ∈ lawOps := List.getElem_mem hn
  have XA := hide (fun W => rdec_any a W ha)
  have XB := hide (fun W => rdec_any b W hb)
  have X1 := hide (fun W hW => evN (Lib.itoa a) (a, 0) (by have := itoa_len a ha; omega) (eval_one a ha []) W hW)
  have hlo : (lawOps[n]'hn).length ≤ 2 := (show ∀ o ∈ lawOps, o.length ≤ 2 by decide) _ hmem
  have hxl := itoa_len a ha
  have hyl := itoa_len b hb
  have X2 := hide (fun W hW => evN (Lib.itoa a ++ [32] ++ (lawOps[n]'hn) ++ [32] ++ Lib.itoa b) _ (by simp; omega) (eval_two a b ha hb _ hmem []) W hW)
  have X3 := hide (fun W hW => evN ([40] ++ Lib.itoa a ++ [41] ++ (lawOps[n]'hn) ++ [40] ++ Lib.itoa b ++ [41]) _ (by simp; omega) (eval_twob a b ha hb _ hmem []) W hW)
  have X4 := hide (fun W => apply_any (lawOps[n]'hn) a b W)
  have hv := apply_e2 a b _ hmem
  have HR : Hid (∀ W : World, Reads W (w.heap.size + 1) 1 (some ⟨w.heap.size, 0, none⟩) 18 (svs lawOps) → W.cell? ⟨w.heap.size, n, none⟩ = some (.string ⟨(lawOps[n]'hn).toArray⟩)) := hide fun W hR => by
    obtain ⟨g, o, e, hg, hc⟩ := rd_cells hR (by omega)
    injection e with e
    injection e with e1 e2 e3
    subst e1; subst e2
    have := hc n hn
    rwa [Nat.zero_add] at this
  have hia : ∀ W, (Instr.indexAt 31 (.slice (some ⟨w.heap.size, 0, none⟩) 18 18) (.int .i64 (n : Int))).run Tryz.prog W = .ok (.pointer (some ⟨w.heap.size, n, none⟩)) W := fun W => by
    have := str_at w.heap.size 0 18 18 n (n : Int) rfl hn W
    rwa [Nat.zero_add] at this
  clear hS hmem ha0 hb0 ha hb
  generalize lawOps[n]'hn = op at *
  generalize Lib.itoa a = x at *
  generalize Lib.itoa b = y at *
  have e1 := hide (cat_b x [32])
  have e2 := hide (cat_b (x ++ [32]) op)
  have e3 := hide (cat_b (x ++ [32] ++ op) [32])
  have e4 := hide (cat_b (x ++ [32] ++ op ++ [32]) y)
  have f1 := hide (cat_b [40] x)
  have f2 := hide (cat_b ([40] ++ x) [41])
  have f3 := hide (cat_b ([40] ++ x ++ [41]) op)
  have f4 := hide (cat_b ([40] ++ x ++ [41] ++ op) [40])
  have f5 := hide (cat_b ([40] ++ x ++ [41] ++ op ++ [40]) y)
  have f6 := hide (cat_b ([40] ++ x ++ [41] ++ op ++ [40] ++ y) [41])
  obtain ⟨v, hvv⟩ : ∃ v, applyP op a b = v := ⟨_, rfl⟩
  rw [hvv] at X2 X3 X4 hv
  clear hvv
  obtain ⟨v1, v2⟩ := v
  have HV : Hid (endP (.ok v1 [] (v2 == 32)) = (v1, v2)) := hide (by
    rcases hv with h | h
    · dsimp only at h; subst h; rfl
    · injection h with h1 h2; subst h1; subst h2; rfl)
  dsimp only at X2 X3 X4
  rw [HV.out] at X2 X3
  have HV2 : Hid (v2 = 0 ∨ (v1 = 0 ∧ v2 = 32)) := hide (by
    rcases hv with h | h
    · exact .inl h
    · injection h with h1 h2; exact .inr ⟨h1, h2⟩)
  clear HV hv
  go_enter Tryz.func4, Tryz.ntmps4
  go_wp2_with fail
  have HRW := hide (row18 w)
  have HSW := hide (HS.out.alloc (.cells #[.string ⟨#[43]⟩, .string ⟨#[45]⟩, .string ⟨#[42]⟩, .string ⟨#[47]⟩, .string ⟨#[37]⟩, .string ⟨#[60, 60]⟩, .string ⟨#[62, 62]⟩, .string ⟨#[60]⟩, .string ⟨#[62]⟩, .string ⟨#[60, 61]⟩, .string ⟨#[62, 61]⟩, .string ⟨#[61, 61]⟩, .string ⟨#[33, 61]⟩, .string ⟨#[38]⟩, .string ⟨#[94]⟩, .string ⟨#[124]⟩, .string ⟨#[38, 38]⟩, .string ⟨#[124, 124]⟩] 9))
  have HB := hide ((Below.refl w.heap.size w).alloc (Nat.le_refl _) (.cells #[.string ⟨#[43]⟩, .string ⟨#[45]⟩, .string ⟨#[42]⟩, .string ⟨#[47]⟩, .string ⟨#[37]⟩, .string ⟨#[60, 60]⟩, .string ⟨#[62, 62]⟩, .string ⟨#[60]⟩, .string ⟨#[62]⟩, .string ⟨#[60, 61]⟩, .string ⟨#[62, 61]⟩, .string ⟨#[61, 61]⟩, .string ⟨#[33, 61]⟩, .string ⟨#[38]⟩, .string ⟨#[94]⟩, .string ⟨#[124]⟩, .string ⟨#[38, 38]⟩, .string ⟨#[124, 124]⟩] 9))
  have hsz : (w.alloc (.cells #[.string ⟨#[43]⟩, .string ⟨#[45]⟩, .string ⟨#[42]⟩, .string ⟨#[47]⟩, .string ⟨#[37]⟩, .string ⟨#[60, 60]⟩, .string ⟨#[62, 62]⟩, .string ⟨#[60]⟩, .string ⟨#[62]⟩, .string ⟨#[60, 61]⟩, .string ⟨#[62, 61]⟩, .string ⟨#[61, 61]⟩, .string ⟨#[33, 61]⟩, .string ⟨#[38]⟩, .string ⟨#[94]⟩, .string ⟨#[124]⟩, .string ⟨#[38, 38]⟩, .string ⟨#[124, 124]⟩] 9)).heap.size = w.heap.size + 1 := by simp
  generalize w.alloc (.cells #[.string ⟨#[43]⟩, .string ⟨#[45]⟩, .string ⟨#[42]⟩, .string ⟨#[47]⟩, .string ⟨#[37]⟩, .string ⟨#[60, 60]⟩, .string ⟨#[62, 62]⟩, .string ⟨#[60]⟩, .string ⟨#[62]⟩, .string ⟨#[60, 61]⟩, .string ⟨#[62, 61]⟩, .string ⟨#[61, 61]⟩, .string ⟨#[33, 61]⟩, .string ⟨#[38]⟩, .string ⟨#[94]⟩, .string ⟨#[124]⟩, .string ⟨#[38, 38]⟩, .string ⟨#[124, 124]⟩] 9) = W1 at *
  have HZ := hide hsz
  clear hsz
  refine (XA.out _).mono ?_
  rintro e w1 ⟨rfl, rfl⟩
  go_wp2_with fail
  refine (XB.out _).mono ?_
  rintro e w1 ⟨rfl, rfl⟩
  go_wp2_with fail
  refine (X1.out _ HSW.out).mono ?_
  rintro e w2 ⟨rfl, hb2⟩
  have HB2 := hide (below_more HB.out (Nat.le_refl _) hb2)
  have HS2 := hide (HSW.out.below hb2)
  have HR2 := hide (HRW.out.below (hb2.mono (by rw [HZ.out]; exact Nat.le_refl _)))
  have HL2 : Hid (w.heap.size + 1 ≤ w2.heap.size) := hide (by have := hb2.size; rw [HZ.out] at this; exact this)
  have c2 := HR.out w2 HR2.out
  clear hb2 HB HSW HRW HZ XA XB X1
  go_wp2_with fail
  rw [e1.out, e2.out, e3.out, e4.out]
  refine (X2.out _ HS2.out).mono ?_
  rintro e w3 ⟨rfl, hb3⟩
  have HB3 := hide (below_more HB2.out (Nat.le_refl _) hb3)
  have HS3 := hide (HS2.out.below hb3)
  have HR3 := hide (HR2.out.below (hb3.mono HL2.out))
  have HL3 : Hid (w.heap.size + 1 ≤ w3.heap.size) := hide (Nat.le_trans HL2.out hb3.size)
  have c3 := HR.out w3 HR3.out
  clear hb3 HB2 HS2 HR2 HL2 c2 X2
  go_wp2_with fail
  rw [f1.out, f2.out, f3.out, f4.out, f5.out, f6.out]
  refine (X3.out _ HS3.out).mono ?_
  rintro e w4 ⟨rfl, hb4⟩
  have HB4 := hide (below_more HB3.out (Nat.le_refl _) hb4)
  have HS4 := hide (HS3.out.below hb4)
  have HR4 := hide (HR3.out.below (hb4.mono HL3.out))
  have c4 := HR.out w4 HR4.out
  clear hb4 HB3 HS3 HR3 HL3 c3 X3
  go_wp2_with fail
  refine (X4.out _).mono ?_
  rintro e w5 ⟨rfl, rfl⟩
  have XH4 := hide (XH.out w4 HS4.out)
  clear XH HS4 HR4 c4 X4 HR
  rcases HV2.out with rfl | ⟨rfl, rfl⟩
  all_goals
    go_wp2_with fail
    refine XH4.out.mono ?_
    rintro e w6 ⟨rfl, hb6⟩
    have HB6 := hide (below_more HB4.out (Nat.le_refl _) hb6)
    clear hb6
    go_wp2_with fail
    go_ret
    exact ⟨rfl, HB6.out⟩
theorem back_any (a b n : Int) (w : World) (hS : StdA w) (ha : i64R a) (hb : i64R b) :
    Calls Tryz.prog 4 #[.int .i64 a, .int .i64 b, .int .i64 n] w fun e w' => e = .returned (.bool true) ∧ Below w.heap.size w w' := by
  by_cases h0 : n < 0
  · exact back_no a b n w hS (.inl h0)
  by_cases h1 : 18 ≤ n
  · exact back_no a b n w hS (.inr (.inl ⟨by omega, h1⟩))
  by_cases h2 : a = -9223372036854775808
  · exact back_no a b n w hS (.inr (.inr (.inl ⟨by omega, by omega, h2⟩)))
  by_cases h3 : b = -9223372036854775808
  · exact back_no a b n w hS (.inr (.inr (.inr ⟨by omega, by omega, h2, h3⟩)))
  obtain ⟨k, rfl⟩ : ∃ k : Nat, n = (k : Int) := ⟨n.toNat, by omega⟩
  exact back_yes a b k w hS ha hb (by omega) h2 h3
end Go.Proofs.YtglgldmofibedaaGreatDoor
