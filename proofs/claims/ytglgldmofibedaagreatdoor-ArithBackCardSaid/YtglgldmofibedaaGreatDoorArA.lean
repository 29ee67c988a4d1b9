/- Contracts of arith.truth, compare, divide, Apply, Unary. -/
import Derived.Test.YtglgldmofibedaaGreatDoorMore
import Derived.Test.YtglgldmofibedaaGreatDoorArP
import Derived.Outline
namespace Go.Proofs.YtglgldmofibedaaGreatDoor
open Go.RowKit
set_option linter.unusedVariables false
theorem ret2i {e : Ending} {a b a' b' : Int} (h : e = .returned (.tuple #[.int .i64 a, .int .i64 b])) (h1 : a = a') (h2 : b = b') : e = .returned (.tuple #[.int .i64 a', .int .i64 b']) := by rw [h, h1, h2]
theorem or_a {a b : Int} (h : a = 0) : fl (b != 0) = fl (!(a == 0) || !(b == 0)) := by subst h; rfl
theorem or_b {a b : Int} (h : ¬ a = 0) : fl true = fl (!(a == 0) || !(b == 0)) := by
  have : (a == 0) = false := by simpa using h
  rw [this]; rfl
theorem and_a {a b : Int} (h : a = 0) : fl false = fl (!(a == 0) && !(b == 0)) := by subst h; rfl
theorem and_b {a b : Int} (h : ¬ a = 0) : fl (b != 0) = fl (!(a == 0) && !(b == 0)) := by
  have : (a == 0) = false := by simpa using h
  rw [this]; rfl
theorem truth_any (b : Bool) (w : World) : Calls Tryz.prog 19 #[.bool b] w fun e w' => e = .returned (.int .i64 (fl b)) ∧ w = w' := by
  cases b
  all_goals
    go_enter Tryz.func19, Tryz.ntmps19
    go_wp2
    go_ret
    exact ⟨rfl, rfl⟩
set_option maxHeartbeats 2000000 in
theorem compare_any (op : Tok) (a b : Int) (w : World) : Calls Tryz.prog 17 #[.string ⟨op.toArray⟩, .int .i64 a, .int .i64 b] w fun e w' => e = .returned (.tuple #[.int .i64 (cmpP op a b).1, .int .i64 (cmpP op a b).2]) ∧ w = w' := by
  have X := hide truth_any
  by_cases e0 : op = [60, 61]
  · subst e0
    have H : Hid (cmpP [60, 61] a b = (fl (decide (a ≤ b)), 0)) := hide rfl
    go_enter Tryz.func17, Tryz.ntmps17
    go_wp2_with fail
    all_goals
      refine (X.out _ _).mono ?_
      rintro e w1 ⟨rfl, rfl⟩
      go_wp2_with fail
      go_ret2
      refine ⟨?_, rfl⟩
      rw [H.out]
      rfl
  by_cases e1 : op = [62, 61]
  · subst e1
    have H : Hid (cmpP [62, 61] a b = (fl (decide (b ≤ a)), 0)) := hide rfl
    go_enter Tryz.func17, Tryz.ntmps17
    go_wp2_with fail
    all_goals
      refine (X.out _ _).mono ?_
      rintro e w1 ⟨rfl, rfl⟩
      go_wp2_with fail
      go_ret2
      refine ⟨?_, rfl⟩
      rw [H.out]
      rfl
  by_cases e2 : op = [60]
  · subst e2
    have H : Hid (cmpP [60] a b = (fl (decide (a < b)), 0)) := hide rfl
    go_enter Tryz.func17, Tryz.ntmps17
    go_wp2_with fail
    all_goals
      refine (X.out _ _).mono ?_
      rintro e w1 ⟨rfl, rfl⟩
      go_wp2_with fail
      go_ret2
      refine ⟨?_, rfl⟩
      rw [H.out]
      rfl
  by_cases e3 : op = [62]
  · subst e3
    have H : Hid (cmpP [62] a b = (fl (decide (b < a)), 0)) := hide rfl
    go_enter Tryz.func17, Tryz.ntmps17
    go_wp2_with fail
    all_goals
      refine (X.out _ _).mono ?_
      rintro e w1 ⟨rfl, rfl⟩
      go_wp2_with fail
      go_ret2
      refine ⟨?_, rfl⟩
      rw [H.out]
      rfl
  by_cases e4 : op = [61, 61]
  · subst e4
    have H : Hid (cmpP [61, 61] a b = (fl (a == b), 0)) := hide rfl
    go_enter Tryz.func17, Tryz.ntmps17
    go_wp2_with fail
    all_goals
      refine (X.out _ _).mono ?_
      rintro e w1 ⟨rfl, rfl⟩
      go_wp2_with fail
      go_ret2
      refine ⟨?_, rfl⟩
      rw [H.out]
      rfl
  by_cases e5 : op = [33, 61]
  · subst e5
    have H : Hid (cmpP [33, 61] a b = (fl (!(a == b)), 0)) := hide rfl
    go_enter Tryz.func17, Tryz.ntmps17
    go_wp2_with fail
    all_goals
      refine (X.out _ _).mono ?_
      rintro e w1 ⟨rfl, rfl⟩
      go_wp2_with fail
      go_ret2
      refine ⟨?_, rfl⟩
      rw [H.out]
      rfl
  by_cases e6 : op = [38, 38]
  · subst e6
    have H : Hid (cmpP [38, 38] a b = (fl (!(a == 0) && !(b == 0)), 0)) := hide rfl
    go_enter Tryz.func17, Tryz.ntmps17
    go_wp2_with fail
    all_goals
      refine (X.out _ _).mono ?_
      rintro e w1 ⟨rfl, rfl⟩
      go_wp2_with fail
      go_ret2
      refine ⟨?_, rfl⟩
      rw [H.out]
      first | exact ret2i rfl rfl rfl | exact ret2i rfl (and_a ‹_›) rfl | exact ret2i rfl (and_b ‹_›) rfl
  by_cases e7 : op = [124, 124]
  · subst e7
    have H : Hid (cmpP [124, 124] a b = (fl (!(a == 0) || !(b == 0)), 0)) := hide rfl
    go_enter Tryz.func17, Tryz.ntmps17
    go_wp2_with fail
    all_goals
      refine (X.out _ _).mono ?_
      rintro e w1 ⟨rfl, rfl⟩
      go_wp2_with fail
      go_ret2
      refine ⟨?_, rfl⟩
      rw [H.out]
      first | exact ret2i rfl rfl rfl | exact ret2i rfl (or_a ‹_›) rfl | exact ret2i rfl (or_b ‹_›) rfl
  have t0 : (op == [60, 61]) = false := beq_eq_false_iff_ne.2 e0
  have t1 : (op == [62, 61]) = false := beq_eq_false_iff_ne.2 e1
  have t2 : (op == [60]) = false := beq_eq_false_iff_ne.2 e2
  have t3 : (op == [62]) = false := beq_eq_false_iff_ne.2 e3
  have t4 : (op == [61, 61]) = false := beq_eq_false_iff_ne.2 e4
  have t5 : (op == [33, 61]) = false := beq_eq_false_iff_ne.2 e5
  have t6 : (op == [38, 38]) = false := beq_eq_false_iff_ne.2 e6
  have t7 : (op == [124, 124]) = false := beq_eq_false_iff_ne.2 e7
  have H : Hid (cmpP op a b = (0, 50)) := hide (by unfold cmpP; simp only [t0, t1, t2, t3, t4, t5, t6, t7, Bool.false_eq_true, if_false])
  clear e0 e1 e2 e3 e4 e5 e6 e7
  go_enter Tryz.func17, Tryz.ntmps17
  go_wp2_with fail
  go_ret2
  exact ⟨by rw [H.out]; rfl, rfl⟩
theorem and63 (n : Int) : bits .and .i64 n 63 = n % 64 := by
  have h63 : (BitVec.ofInt 64 63).toNat = 2 ^ 6 - 1 := by decide
  have key : (BitVec.ofInt 64 n &&& BitVec.ofInt 64 63).toNat = (n % ((2 ^ 64 : Nat) : Int)).toNat % 2 ^ 6 := by
    rw [BitVec.toNat_and, BitVec.toNat_ofInt, h63, Nat.and_two_pow_sub_one_eq_mod]
  show IntKind.i64.wrap ((BitVec.ofInt 64 n &&& BitVec.ofInt 64 63).toNat : Nat) = n % 64
  rw [key, IntKind.wrap_i64]
  omega
def divP (op : Tok) (a b : Int) : Int × Int := if b = 0 then (0, 32) else if (op == [47]) then (W (a.tdiv b), 0) else (a.tmod b, 0)
theorem divide_any (op : Tok) (a b : Int) (w : World) : Calls Tryz.prog 16 #[.string ⟨op.toArray⟩, .int .i64 a, .int .i64 b] w fun e w' => e = .returned (.tuple #[.int .i64 (divP op a b).1, .int .i64 (divP op a b).2]) ∧ w = w' := by
  by_cases hb : b = 0
  · subst hb
    have H : Hid (divP op a 0 = (0, 32)) := hide rfl
    go_enter Tryz.func16, Tryz.ntmps16
    go_wp2_with fail
    go_ret2
    exact ⟨by rw [H.out]; rfl, rfl⟩
  have hb2 : (b == 0) = false := by simpa using hb
  by_cases e : op = [47]
  · subst e
    have H : Hid (divP [47] a b = (wrap64 (a.tdiv b), 0)) := hide (by unfold divP; rw [if_neg hb]; rfl)
    go_enter Tryz.func16, Tryz.ntmps16
    go_wp2_with fail
    go_ret2
    exact ⟨by rw [H.out]; rfl, rfl⟩
  have t : (op == [47]) = false := beq_eq_false_iff_ne.2 e
  have H : Hid (divP op a b = (a.tmod b, 0)) := hide (by unfold divP; rw [if_neg hb, t]; rfl)
  clear e
  go_enter Tryz.func16, Tryz.ntmps16
  go_wp2_with fail
  go_ret2
  exact ⟨by rw [H.out]; rfl, rfl⟩
set_option maxHeartbeats 2000000 in
theorem apply_any (op : Tok) (a b : Int) (w : World) : Calls Tryz.prog 7 #[.string ⟨op.toArray⟩, .int .i64 a, .int .i64 b] w fun e w' => e = .returned (.tuple #[.int .i64 (applyP op a b).1, .int .i64 (applyP op a b).2]) ∧ w = w' := by
  have hm := and63 b
  have hm0 : 0 ≤ b % 64 := by omega
  have hm1 : b % 64 < 64 := by omega
  by_cases e0 : op = [43]
  · subst e0
    have H : Hid (applyP [43] a b = (wrap64 (a + b), 0)) := hide rfl
    generalize b % 64 = m at *
    go_enter Tryz.func7, Tryz.ntmps7
    go_wp2_with fail
    go_ret2
    exact ⟨by rw [H.out]; rfl, rfl⟩
  by_cases e1 : op = [45]
  · subst e1
    have H : Hid (applyP [45] a b = (wrap64 (a - b), 0)) := hide rfl
    generalize b % 64 = m at *
    go_enter Tryz.func7, Tryz.ntmps7
    go_wp2_with fail
    go_ret2
    exact ⟨by rw [H.out]; rfl, rfl⟩
  by_cases e2 : op = [42]
  · subst e2
    have H : Hid (applyP [42] a b = (wrap64 (a * b), 0)) := hide rfl
    generalize b % 64 = m at *
    go_enter Tryz.func7, Tryz.ntmps7
    go_wp2_with fail
    go_ret2
    exact ⟨by rw [H.out]; rfl, rfl⟩
  by_cases e3 : op = [47]
  · subst e3
    have H : Hid (applyP [47] a b = divP [47] a b) := hide (by unfold divP; by_cases hb : b = 0 <;> simp [applyP, hb])
    go_enter Tryz.func7, Tryz.ntmps7
    go_wp2_with fail
    refine (divide_any _ _ _ _).mono ?_
    rintro e w1 ⟨rfl, rfl⟩
    go_wp2_with fail
    go_ret2
    exact ⟨by rw [H.out]; rfl, rfl⟩
  by_cases e4 : op = [37]
  · subst e4
    have H : Hid (applyP [37] a b = divP [37] a b) := hide (by unfold divP; by_cases hb : b = 0 <;> simp [applyP, hb])
    go_enter Tryz.func7, Tryz.ntmps7
    go_wp2_with fail
    refine (divide_any _ _ _ _).mono ?_
    rintro e w1 ⟨rfl, rfl⟩
    go_wp2_with fail
    go_ret2
    exact ⟨by rw [H.out]; rfl, rfl⟩
  by_cases e5 : op = [60, 60]
  · subst e5
    have H : Hid (applyP [60, 60] a b = (wrap64 (a * 2 ^ (b % 64).toNat), 0)) := hide rfl
    generalize b % 64 = m at *
    go_enter Tryz.func7, Tryz.ntmps7
    go_wp2_with fail
    go_ret2
    exact ⟨by rw [H.out]; rfl, rfl⟩
  by_cases e6 : op = [62, 62]
  · subst e6
    have H : Hid (applyP [62, 62] a b = (a / 2 ^ (b % 64).toNat, 0)) := hide rfl
    generalize b % 64 = m at *
    go_enter Tryz.func7, Tryz.ntmps7
    go_wp2_with fail
    go_ret2
    exact ⟨by rw [H.out]; rfl, rfl⟩
  by_cases e7 : op = [38]
  · subst e7
    have H : Hid (applyP [38] a b = (bits .and .i64 a b, 0)) := hide rfl
    generalize b % 64 = m at *
    go_enter Tryz.func7, Tryz.ntmps7
    go_wp2_with fail
    go_ret2
    exact ⟨by rw [H.out]; rfl, rfl⟩
  by_cases e8 : op = [94]
  · subst e8
    have H : Hid (applyP [94] a b = (bits .xor .i64 a b, 0)) := hide rfl
    generalize b % 64 = m at *
    go_enter Tryz.func7, Tryz.ntmps7
    go_wp2_with fail
    go_ret2
    exact ⟨by rw [H.out]; rfl, rfl⟩
  by_cases e9 : op = [124]
  · subst e9
    have H : Hid (applyP [124] a b = (bits .or .i64 a b, 0)) := hide rfl
    generalize b % 64 = m at *
    go_enter Tryz.func7, Tryz.ntmps7
    go_wp2_with fail
    go_ret2
    exact ⟨by rw [H.out]; rfl, rfl⟩
  have t0 : (op == [43]) = false := beq_eq_false_iff_ne.2 e0
  have t1 : (op == [45]) = false := beq_eq_false_iff_ne.2 e1
  have t2 : (op == [42]) = false := beq_eq_false_iff_ne.2 e2
  have t3 : (op == [47]) = false := beq_eq_false_iff_ne.2 e3
  have t4 : (op == [37]) = false := beq_eq_false_iff_ne.2 e4
  have t5 : (op == [60, 60]) = false := beq_eq_false_iff_ne.2 e5
  have t6 : (op == [62, 62]) = false := beq_eq_false_iff_ne.2 e6
  have t7 : (op == [38]) = false := beq_eq_false_iff_ne.2 e7
  have t8 : (op == [94]) = false := beq_eq_false_iff_ne.2 e8
  have t9 : (op == [124]) = false := beq_eq_false_iff_ne.2 e9
  have H : Hid (applyP op a b = cmpP op a b) := hide (by unfold applyP; simp only [t0, t1, t2, t3, t4, t5, t6, t7, t8, t9, Bool.false_eq_true, if_false])
  clear e0 e1 e2 e3 e4 e5 e6 e7 e8 e9
  go_enter Tryz.func7, Tryz.ntmps7
  go_wp2_with fail
  refine (compare_any _ _ _ _).mono ?_
  rintro e w1 ⟨rfl, rfl⟩
  go_wp2_with fail
  go_ret2
  exact ⟨by rw [H.out]; rfl, rfl⟩
set_option maxHeartbeats 2000000 in
theorem unary_any (op : Tok) (a : Int) (w : World) : Calls Tryz.prog 9 #[.string ⟨op.toArray⟩, .int .i64 a] w fun e w' => e = .returned (.tuple #[.int .i64 (unaryP op a).1, .bool (unaryP op a).2]) ∧ w = w' := by
  have X := hide truth_any
  by_cases e0 : op = [43]
  · subst e0
    have H : Hid (unaryP [43] a = (a, true)) := hide rfl
    go_enter Tryz.func9, Tryz.ntmps9
    go_wp2_with fail
    go_ret2
    exact ⟨by rw [H.out]; rfl, rfl⟩
  by_cases e1 : op = [45]
  · subst e1
    have H : Hid (unaryP [45] a = (wrap64 (-a), true)) := hide rfl
    go_enter Tryz.func9, Tryz.ntmps9
    go_wp2_with fail
    go_ret2
    exact ⟨by rw [H.out]; rfl, rfl⟩
  by_cases e2 : op = [33]
  · subst e2
    have H : Hid (unaryP [33] a = (fl (a == 0), true)) := hide rfl
    go_enter Tryz.func9, Tryz.ntmps9
    go_wp2_with fail
    refine (X.out _ _).mono ?_
    rintro e w1 ⟨rfl, rfl⟩
    go_wp2_with fail
    go_ret2
    exact ⟨by rw [H.out]; rfl, rfl⟩
  by_cases e3 : op = [126]
  · subst e3
    have H : Hid (unaryP [126] a = (bits .xor .i64 (-1) a, true)) := hide rfl
    go_enter Tryz.func9, Tryz.ntmps9
    go_wp2_with fail
    go_ret2
    exact ⟨by rw [H.out]; rfl, rfl⟩
  have t0 : (op == [43]) = false := beq_eq_false_iff_ne.2 e0
  have t1 : (op == [45]) = false := beq_eq_false_iff_ne.2 e1
  have t2 : (op == [33]) = false := beq_eq_false_iff_ne.2 e2
  have t3 : (op == [126]) = false := beq_eq_false_iff_ne.2 e3
  have H : Hid (unaryP op a = (0, false)) := hide (by unfold unaryP; simp only [t0, t1, t2, t3, Bool.false_eq_true, if_false])
  clear e0 e1 e2 e3
  go_enter Tryz.func9, Tryz.ntmps9
  go_wp2_with fail
  go_ret2
  exact ⟨by rw [H.out]; rfl, rfl⟩
end Go.Proofs.YtglgldmofibedaaGreatDoor
