/- The document's Apply, Unary; the law on operators. -/
import Derived.Test.YtglgldmofibedaaGreatDoorArU
namespace Go.Proofs.YtglgldmofibedaaGreatDoor
open Go.RowKit
set_option linter.unusedVariables false
theorem flag_any (b : Bool) (w : World) : Calls Tryz.prog 20 #[.bool b] w fun e w' => e = .returned (.int .i64 (fl b)) ∧ w = w' := by
  cases b
  all_goals
    go_enter Tryz.func20, Tryz.ntmps20
    go_wp2
    go_ret
    exact ⟨rfl, rfl⟩
set_option maxHeartbeats 2000000 in
theorem rcompare_any (op : Tok) (a b : Int) (w : World) : Calls Tryz.prog 18 #[.string ⟨op.toArray⟩, .int .i64 a, .int .i64 b] w fun e w' => e = .returned (.tuple #[.int .i64 (cmpP op a b).1, .int .i64 (cmpP op a b).2]) ∧ w = w' := by
  have X := hide flag_any
  by_cases e0 : op = [60]
  · subst e0
    have H : Hid (cmpP [60] a b = (fl (decide (a < b)), 0)) := hide rfl
    go_enter Tryz.func18, Tryz.ntmps18
    go_wp2_with fail
    all_goals
      refine (X.out _ _).mono ?_
      rintro e w1 ⟨rfl, rfl⟩
      go_wp2_with fail
      go_ret2
      refine ⟨?_, rfl⟩
      rw [H.out]
      rfl
  by_cases e1 : op = [62]
  · subst e1
    have H : Hid (cmpP [62] a b = (fl (decide (b < a)), 0)) := hide rfl
    go_enter Tryz.func18, Tryz.ntmps18
    go_wp2_with fail
    all_goals
      refine (X.out _ _).mono ?_
      rintro e w1 ⟨rfl, rfl⟩
      go_wp2_with fail
      go_ret2
      refine ⟨?_, rfl⟩
      rw [H.out]
      rfl
  by_cases e2 : op = [60, 61]
  · subst e2
    have H : Hid (cmpP [60, 61] a b = (fl (decide (a ≤ b)), 0)) := hide rfl
    go_enter Tryz.func18, Tryz.ntmps18
    go_wp2_with fail
    all_goals
      refine (X.out _ _).mono ?_
      rintro e w1 ⟨rfl, rfl⟩
      go_wp2_with fail
      go_ret2
      refine ⟨?_, rfl⟩
      rw [H.out]
      rfl
  by_cases e3 : op = [62, 61]
  · subst e3
    have H : Hid (cmpP [62, 61] a b = (fl (decide (b ≤ a)), 0)) := hide rfl
    go_enter Tryz.func18, Tryz.ntmps18
    go_wp2_with fail
    all_goals
      refine (X.out _ _).mono ?_
      rintro e w1 ⟨rfl, rfl⟩
      go_wp2_with fail
      go_ret2
      refine ⟨?_, rfl⟩
      rw [H.out]
      rfl
  by_cases e4 : op = [61, 61]
  · subst e4
    have H : Hid (cmpP [61, 61] a b = (fl (a == b), 0)) := hide rfl
    go_enter Tryz.func18, Tryz.ntmps18
    go_wp2_with fail
    all_goals
      refine (X.out _ _).mono ?_
      rintro e w1 ⟨rfl, rfl⟩
      go_wp2_with fail
      go_ret2
      refine ⟨?_, rfl⟩
      rw [H.out]
      rfl
  by_cases e5 : op = [33, 61]
  · subst e5
    have H : Hid (cmpP [33, 61] a b = (fl (!(a == b)), 0)) := hide rfl
    go_enter Tryz.func18, Tryz.ntmps18
    go_wp2_with fail
    all_goals
      refine (X.out _ _).mono ?_
      rintro e w1 ⟨rfl, rfl⟩
      go_wp2_with fail
      go_ret2
      refine ⟨?_, rfl⟩
      rw [H.out]
      rfl
  by_cases e6 : op = [38, 38]
  · subst e6
    have H : Hid (cmpP [38, 38] a b = (fl (!(a == 0) && !(b == 0)), 0)) := hide rfl
    go_enter Tryz.func18, Tryz.ntmps18
    go_wp2_with fail
    all_goals
      refine (X.out _ _).mono ?_
      rintro e w1 ⟨rfl, rfl⟩
      go_wp2_with fail
      go_ret2
      refine ⟨?_, rfl⟩
      rw [H.out]
      first | exact ret2i rfl rfl rfl | exact ret2i rfl (and_a ‹_›) rfl | exact ret2i rfl (and_b ‹_›) rfl
  by_cases e7 : op = [124, 124]
  · subst e7
    have H : Hid (cmpP [124, 124] a b = (fl (!(a == 0) || !(b == 0)), 0)) := hide rfl
    go_enter Tryz.func18, Tryz.ntmps18
    go_wp2_with fail
    all_goals
      refine (X.out _ _).mono ?_
      rintro e w1 ⟨rfl, rfl⟩
      go_wp2_with fail
      go_ret2
      refine ⟨?_, rfl⟩
      rw [H.out]
      first | exact ret2i rfl rfl rfl | exact ret2i rfl (or_a ‹_›) rfl | exact ret2i rfl (or_b ‹_›) rfl
  have t0 : (op == [60]) = false := beq_eq_false_iff_ne.2 e0
  have t1 : (op == [62]) = false := beq_eq_false_iff_ne.2 e1
  have t2 : (op == [60, 61]) = false := beq_eq_false_iff_ne.2 e2
  have t3 : (op == [62, 61]) = false := beq_eq_false_iff_ne.2 e3
  have t4 : (op == [61, 61]) = false := beq_eq_false_iff_ne.2 e4
  have t5 : (op == [33, 61]) = false := beq_eq_false_iff_ne.2 e5
  have t6 : (op == [38, 38]) = false := beq_eq_false_iff_ne.2 e6
  have t7 : (op == [124, 124]) = false := beq_eq_false_iff_ne.2 e7
  have H : Hid (cmpP op a b = (0, 50)) := hide (by unfold cmpP; simp only [t0, t1, t2, t3, t4, t5, t6, t7, Bool.false_eq_true, if_false])
  clear e0 e1 e2 e3 e4 e5 e6 e7
  go_enter Tryz.func18, Tryz.ntmps18
  go_wp2_with fail
  go_ret2
  exact ⟨by rw [H.out]; rfl, rfl⟩
theorem tm64 (b : Int) : -64 < b.tmod 64 ∧ b.tmod 64 < 64 ∧ (b.tmod 64 + 64).tmod 64 = b % 64 := by
  have h1 : b.tmod 64 = if 0 ≤ b then b % 64 else -((-b) % 64) := by
    split
    · exact Int.tmod_eq_emod_of_nonneg (by assumption)
    · have := Int.neg_tmod (-b) 64
      rw [Int.neg_neg] at this
      rw [this, Int.tmod_eq_emod_of_nonneg (by omega)]
  have h2 : 0 ≤ b.tmod 64 + 64 := by rw [h1]; split <;> omega
  rw [Int.tmod_eq_emod_of_nonneg h2, h1]
  refine ⟨?_, ?_, ?_⟩ <;> (split <;> omega)
theorem div_m1 (a : Int) : a.tdiv (-1) = -a := by rw [Int.tdiv_neg, Int.tdiv_one]
theorem mod_m1 (a : Int) : a.tmod (-1) = 0 := by rw [Int.tmod_neg, Int.tmod_one]
set_option maxHeartbeats 4000000 in
theorem rapply_any (op : Tok) (a b : Int) (w : World) : Calls Tryz.prog 8 #[.string ⟨op.toArray⟩, .int .i64 a, .int .i64 b] w fun e w' => e = .returned (.tuple #[.int .i64 (applyP op a b).1, .int .i64 (applyP op a b).2]) ∧ w = w' := by
  have HM : Hid (min (IntKind.u64.wrap ((wrap64 (b.tmod 64 + 64)).tmod 64)).toNat 64 = (b % 64).toNat) := hide (by
    obtain ⟨ht0, ht1, ht2⟩ := tm64 b
    rw [IntWalk.wrap64_in _ (by omega), ht2, show IntKind.u64.wrap (b % 64) = b % 64 by simp [IntKind.wrap, IntKind.bits, IntKind.signed]; omega]
    omega)
  by_cases e0 : op = [43]
  · subst e0
    have H : Hid (applyP [43] a b = (wrap64 (a + b), 0)) := hide rfl

    go_enter Tryz.func8, Tryz.ntmps8
    go_wp2_with fail
    go_ret2
    exact ⟨by rw [H.out]; rfl, rfl⟩
  by_cases e1 : op = [45]
  · subst e1
    have H : Hid (applyP [45] a b = (wrap64 (a - b), 0)) := hide rfl

    go_enter Tryz.func8, Tryz.ntmps8
    go_wp2_with fail
    go_ret2
    exact ⟨by rw [H.out]; rfl, rfl⟩
  by_cases e2 : op = [42]
  · subst e2
    have H : Hid (applyP [42] a b = (wrap64 (a * b), 0)) := hide rfl

    go_enter Tryz.func8, Tryz.ntmps8
    go_wp2_with fail
    go_ret2
    exact ⟨by rw [H.out]; rfl, rfl⟩
  by_cases e3 : op = [47]
  · subst e3
    by_cases hb : b = 0
    · subst hb
      have H : Hid (applyP [47] a 0 = (0, 32)) := hide rfl
  
      go_enter Tryz.func8, Tryz.ntmps8
      go_wp2_with fail
      go_ret2
      exact ⟨by rw [H.out]; rfl, rfl⟩
    have hb0 : (b == 0) = false := by simpa using hb
    by_cases hb1 : b = -1
    · subst hb1
      have H : Hid (applyP [47] a (-1) = (wrap64 (-a), 0)) := hide (by simp [applyP, W])
  
      go_enter Tryz.func8, Tryz.ntmps8
      go_wp2_with fail
      go_ret2
      exact ⟨by rw [H.out]; rfl, rfl⟩
    have hb2 : (b == -1) = false := by simpa using hb1
    have H : Hid (applyP [47] a b = (wrap64 (a.tdiv b), 0)) := hide (by simp [applyP, hb, W])

    go_enter Tryz.func8, Tryz.ntmps8
    go_wp2_with fail
    go_ret2
    exact ⟨by rw [H.out]; rfl, rfl⟩
  by_cases e4 : op = [37]
  · subst e4
    by_cases hb : b = 0
    · subst hb
      have H : Hid (applyP [37] a 0 = (0, 32)) := hide rfl
  
      go_enter Tryz.func8, Tryz.ntmps8
      go_wp2_with fail
      go_ret2
      exact ⟨by rw [H.out]; rfl, rfl⟩
    have hb0 : (b == 0) = false := by simpa using hb
    by_cases hb1 : b = -1
    · subst hb1
      have H : Hid (applyP [37] a (-1) = (0, 0)) := hide (by simp [applyP])
  
      go_enter Tryz.func8, Tryz.ntmps8
      go_wp2_with fail
      go_ret2
      exact ⟨by rw [H.out]; rfl, rfl⟩
    have hb2 : (b == -1) = false := by simpa using hb1
    have H : Hid (applyP [37] a b = (a.tmod b, 0)) := hide (by simp [applyP, hb])

    go_enter Tryz.func8, Tryz.ntmps8
    go_wp2_with fail
    go_ret2
    exact ⟨by rw [H.out]; rfl, rfl⟩
  by_cases e5 : op = [60, 60]
  · subst e5
    have H : Hid (applyP [60, 60] a b = (wrap64 (a * 2 ^ (b % 64).toNat), 0)) := hide rfl

    go_enter Tryz.func8, Tryz.ntmps8
    go_wp2_with fail
    go_ret2
    exact ⟨by rw [HM.out, H.out]; rfl, rfl⟩
  by_cases e6 : op = [62, 62]
  · subst e6
    have H : Hid (applyP [62, 62] a b = (a / 2 ^ (b % 64).toNat, 0)) := hide rfl

    go_enter Tryz.func8, Tryz.ntmps8
    go_wp2_with fail
    go_ret2
    exact ⟨by rw [HM.out, H.out]; rfl, rfl⟩
  by_cases e7 : op = [38]
  · subst e7
    have H : Hid (applyP [38] a b = (bits .and .i64 a b, 0)) := hide rfl

    go_enter Tryz.func8, Tryz.ntmps8
    go_wp2_with fail
    go_ret2
    exact ⟨by rw [H.out]; rfl, rfl⟩
  by_cases e8 : op = [94]
  · subst e8
    have H : Hid (applyP [94] a b = (bits .xor .i64 a b, 0)) := hide rfl

    go_enter Tryz.func8, Tryz.ntmps8
    go_wp2_with fail
    go_ret2
    exact ⟨by rw [H.out]; rfl, rfl⟩
  by_cases e9 : op = [124]
  · subst e9
    have H : Hid (applyP [124] a b = (bits .or .i64 a b, 0)) := hide rfl

    go_enter Tryz.func8, Tryz.ntmps8
    go_wp2_with fail
    go_ret2
    exact ⟨by rw [H.out]; rfl, rfl⟩
  have t0 : (op == [43]) = false := beq_eq_false_iff_ne.2 e0
  have t1 : (op == [45]) = false := beq_eq_false_iff_ne.2 e1
  have t2 : (op == [42]) = false := beq_eq_false_iff_ne.2 e2
  have t3 : (op == [47]) = false := beq_eq_false_iff_ne.2 e3
  have t4 : (op == [37]) = false := beq_eq_false_iff_ne.2 e4
  have t5 : (op == [60, 60]) = false := beq_eq_false_iff_ne.2 e5
  have t6 : (op == [62, 62]) = false := beq_eq_false_iff_ne.2 e6
  have t7 : (op == [38]) = false := beq_eq_false_iff_ne.2 e7
  have t8 : (op == [94]) = false := beq_eq_false_iff_ne.2 e8
  have t9 : (op == [124]) = false := beq_eq_false_iff_ne.2 e9
  have H : Hid (applyP op a b = cmpP op a b) := hide (by unfold applyP; simp only [t0, t1, t2, t3, t4, t5, t6, t7, t8, t9, Bool.false_eq_true, if_false])
  clear e0 e1 e2 e3 e4 e5 e6 e7 e8 e9
  have X := hide (rcompare_any op a b)
  go_enter Tryz.func8, Tryz.ntmps8
  go_wp2_with fail
  refine (X.out _).mono ?_
  rintro e w1 ⟨rfl, rfl⟩
  go_wp2_with fail
  go_ret2
  exact ⟨by rw [H.out]; rfl, rfl⟩
set_option maxHeartbeats 2000000 in
theorem runary_any (op : Tok) (a : Int) (w : World) : Calls Tryz.prog 10 #[.string ⟨op.toArray⟩, .int .i64 a] w fun e w' => e = .returned (.tuple #[.int .i64 (unaryP op a).1, .bool (unaryP op a).2]) ∧ w = w' := by
  have X := hide flag_any
  by_cases e0 : op = [43]
  · subst e0
    have H : Hid (unaryP [43] a = (a, true)) := hide rfl
    go_enter Tryz.func10, Tryz.ntmps10
    go_wp2_with fail
    go_ret2
    exact ⟨by rw [H.out]; rfl, rfl⟩
  by_cases e1 : op = [45]
  · subst e1
    have H : Hid (unaryP [45] a = (wrap64 (-a), true)) := hide rfl
    go_enter Tryz.func10, Tryz.ntmps10
    go_wp2_with fail
    go_ret2
    exact ⟨by rw [H.out]; rfl, rfl⟩
  by_cases e2 : op = [33]
  · subst e2
    have H : Hid (unaryP [33] a = (fl (a == 0), true)) := hide rfl
    go_enter Tryz.func10, Tryz.ntmps10
    go_wp2_with fail
    refine (X.out _ _).mono ?_
    rintro e w1 ⟨rfl, rfl⟩
    go_wp2_with fail
    go_ret2
    exact ⟨by rw [H.out]; rfl, rfl⟩
  by_cases e3 : op = [126]
  · subst e3
    have H : Hid (unaryP [126] a = (bits .xor .i64 (-1) a, true)) := hide rfl
    go_enter Tryz.func10, Tryz.ntmps10
    go_wp2_with fail
    go_ret2
    exact ⟨by rw [H.out]; rfl, rfl⟩
  have t0 : (op == [43]) = false := beq_eq_false_iff_ne.2 e0
  have t1 : (op == [45]) = false := beq_eq_false_iff_ne.2 e1
  have t2 : (op == [33]) = false := beq_eq_false_iff_ne.2 e2
  have t3 : (op == [126]) = false := beq_eq_false_iff_ne.2 e3
  have H : Hid (unaryP op a = (0, false)) := hide (by unfold unaryP; simp only [t0, t1, t2, t3, Bool.false_eq_true, if_false])
  clear e0 e1 e2 e3
  go_enter Tryz.func10, Tryz.ntmps10
  go_wp2_with fail
  go_ret2
  exact ⟨by rw [H.out]; rfl, rfl⟩
set_option maxRecDepth 100000 in
set_option maxHeartbeats 4000000 in
theorem applies_any (op : Tok) (a b : Int) (w : World) (hS : StdA w) : Calls Tryz.prog 3 #[.string ⟨op.toArray⟩, .int .i64 a, .int .i64 b] w fun e w' => e = .returned (.bool true) ∧ Below w.heap.size w w' := by
  have XH := hide (heads_any w hS)
  have X1 := hide (apply_any op a b w)
  have X2 := hide (rapply_any op a b w)
  have X3 := hide (unary_any op a w)
  have X4 := hide (runary_any op a w)
  clear hS
  generalize applyP op a b = v at *
  generalize unaryP op a = u at *
  obtain ⟨v1, v2⟩ := v
  obtain ⟨u1, u2⟩ := u
  by_cases h : 100 < op.length
  · have h' : (100 : Int) < (op.length : Int) := by omega
    go_enter Tryz.func3, Tryz.ntmps3
    go_wp2_with fail
    refine XH.out.mono ?_
    rintro e w1 ⟨rfl, hb⟩
    have HB := hide hb
    clear hb
    go_wp2_with fail
    go_ret
    exact ⟨rfl, HB.out⟩
  · have h' : ¬ (100 : Int) < (op.length : Int) := by omega
    go_enter Tryz.func3, Tryz.ntmps3
    go_wp2_with fail
    refine X1.out.mono ?_
    rintro e w1 ⟨rfl, rfl⟩
    go_wp2_with fail
    refine X2.out.mono ?_
    rintro e w1 ⟨rfl, rfl⟩
    go_wp2_with fail
    refine X3.out.mono ?_
    rintro e w1 ⟨rfl, rfl⟩
    go_wp2_with fail
    refine X4.out.mono ?_
    rintro e w1 ⟨rfl, rfl⟩
    have hu : (u2 == u2) = true := by simp
    go_wp2_with fail
    refine XH.out.mono ?_
    rintro e w1 ⟨rfl, hb⟩
    have HB := hide hb
    clear hb
    go_wp2_with fail
    go_ret
    exact ⟨rfl, HB.out⟩
theorem applies_b (s : ByteArray) (a b : Int) (w : World) (hS : StdA w) : Calls Tryz.prog 3 #[.string s, .int .i64 a, .int .i64 b] w fun e w' => e = .returned (.bool true) ∧ Below w.heap.size w w' := by
  obtain ⟨l, rfl⟩ := bs_of s
  exact applies_any l a b w hS
end Go.Proofs.YtglgldmofibedaaGreatDoor
