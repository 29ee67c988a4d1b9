/- env.Right. -/
import Derived.Test.YthbackkcamgidaaGreatDoorEnvB
namespace Go.Proofs.YthbackkcamgidaaGreatDoor
open Go.RowKit
set_option linter.unusedVariables false
def EU.v (e : EU) : Value := .agg #[.int .i64 e.k, .string ⟨e.pat.toArray⟩, .string ⟨e.val.toArray⟩]
set_option maxHeartbeats 2000000 in
theorem forms_any (n v : LB) (hn : n.length ≤ 400000) (hv : v.length ≤ 400000) (w : World) : Calls Tryz.prog 124 #[.string ⟨n.toArray⟩, .string ⟨v.toArray⟩] w fun e w' => e = .returned (.bool (formsU n v)) ∧ Below w.heap.size w w' := by
  have X := hide (fun W => parse_any (n ++ 61 :: v) (by simp; omega) W)
  have HE : Hid ((⟨n.toArray⟩ ++ ⟨#[61]⟩ : ByteArray) ++ ⟨v.toArray⟩ = ⟨(n ++ 61 :: v).toArray⟩) := hide (by
    have e1 := catB n [61]
    have e2 := catB (n ++ [61]) v
    rw [show (⟨#[61]⟩ : ByteArray) = ⟨([61] : LB).toArray⟩ from rfl, e1, e2]
    simp)
  have HF : Hid (formsU n v = match parseP (n ++ 61 :: v) with | some q => q.1 == n | none => false) := hide rfl
  have hz1 : ¬ 9223372036854775807 < n.length + 1 := by omega
  have hz2 : ¬ 9223372036854775807 < n.length + 1 + v.length := by omega
  unfold parseV at X
  generalize formsU n v = R at *
  generalize parseP (n ++ 61 :: v) = P at *
  cases P with
  | none =>
    have HR : Hid (R = false) := hide HF.out
    clear HF
    unfold St.v at X
    dsimp only [Option.getD_none, Option.isSome_none] at X
    rw [HR.out]
    go_enter Tryz.func124, Tryz.ntmps124
    go_wp2_with (first | rw [HE.out])
    refine (X.out _).mono ?_
    rintro e w1 ⟨rfl, hb⟩
    have HB := hide hb
    clear hb
    go_wp2_with fail
    go_ret
    exact ⟨rfl, HB.out.alloc HB.out.size _⟩
  | some q =>
    obtain ⟨a, b⟩ := q
    have HR : Hid (R = (a == n)) := hide HF.out
    clear HF
    unfold St.v at X
    dsimp only [Option.getD_some, Option.isSome_some] at X
    rw [HR.out]
    go_enter Tryz.func124, Tryz.ntmps124
    go_wp2_with (first | rw [HE.out])
    refine (X.out _).mono ?_
    rintro e w1 ⟨rfl, hb⟩
    have HB := hide hb
    clear hb
    go_wp2_with fail
    go_ret
    exact ⟨rfl, HB.out.alloc HB.out.size _⟩
set_option maxHeartbeats 4000000 in
theorem right_any (e : EU) (hn : e.pat.length ≤ 400000) (hv : e.val.length ≤ 400000) (w : World) : Calls Tryz.prog 115 #[e.v] w fun en w' => en = .returned (.bool (rightE e)) ∧ Below w.heap.size w w' := by
  have X := hide (fun W => forms_any e.pat e.val hn hv W)
  have HF : Hid (rightE e = if e.k = 1 ∨ e.k = 2 then decide (1 ≤ e.pat.length) && (decide (e.pat.length ≤ 256) && (e.val == [])) else if e.k = 3 then formsU e.pat e.val else false) := hide rfl
  unfold EU.v
  generalize rightE e = R at *
  obtain ⟨k, n, v⟩ := e
  dsimp only at *
  generalize formsU n v = F at *
  have HB := hide ((Below.refl w.heap.size w).alloc (Nat.le_refl _) (.cells #[.int .i64 k, .string ⟨n.toArray⟩, .string ⟨v.toArray⟩] 42))
  have main : ∀ (hk : k = 1 ∨ k = 2), Calls Tryz.prog 115 #[.agg #[.int .i64 k, .string ⟨n.toArray⟩, .string ⟨v.toArray⟩]] w fun en w' => en = .returned (.bool (decide (1 ≤ n.length) && (decide (n.length ≤ 256) && (v == [])))) ∧ Below w.heap.size w w' := by
    intro hk
    have hm1 : decide ((1 : Int) ≤ (n.length : Int)) = decide (1 ≤ n.length) := by rw [decide_eq_decide]; omega
    have hm2 : decide ((n.length : Int) ≤ 256) = decide (n.length ≤ 256) := by rw [decide_eq_decide]; omega
    by_cases a1 : 1 ≤ n.length
    · have a1' : (1 : Int) ≤ (n.length : Int) := by omega
      by_cases a2 : n.length ≤ 256
      · have a2' : (n.length : Int) ≤ 256 := by omega
        rw [decide_eq_true a1, decide_eq_true a2, Bool.true_and, Bool.true_and]
        have hvv : v.isEmpty = (v == []) := by cases v <;> rfl
        obtain ⟨q, hq⟩ : ∃ q, (v == []) = q := ⟨_, rfl⟩
        rw [hq] at hvv ⊢
        clear hm1 hm2
        rcases hk with rfl | rfl
        · go_enter Tryz.func115, Tryz.ntmps115
          go_wp2_with fail
          go_ret
          exact ⟨rfl, HB.out⟩
        · go_enter Tryz.func115, Tryz.ntmps115
          go_wp2_with fail
          go_ret
          exact ⟨rfl, HB.out⟩
      · have a2' : ¬ (n.length : Int) ≤ 256 := by omega
        rw [decide_eq_true a1, decide_eq_false a2, Bool.true_and, Bool.false_and]
        clear hm1 hm2
        rcases hk with rfl | rfl
        · go_enter Tryz.func115, Tryz.ntmps115
          go_wp2_with fail
          go_ret
          exact ⟨rfl, HB.out⟩
        · go_enter Tryz.func115, Tryz.ntmps115
          go_wp2_with fail
          go_ret
          exact ⟨rfl, HB.out⟩
    · have a1' : ¬ (1 : Int) ≤ (n.length : Int) := by omega
      rw [decide_eq_false a1, Bool.false_and]
      clear hm1 hm2
      rcases hk with rfl | rfl
      · go_enter Tryz.func115, Tryz.ntmps115
        go_wp2_with fail
        go_ret
        exact ⟨rfl, HB.out⟩
      · go_enter Tryz.func115, Tryz.ntmps115
        go_wp2_with fail
        go_ret
        exact ⟨rfl, HB.out⟩
  by_cases hk : k = 1 ∨ k = 2
  · refine (main hk).mono ?_
    rintro en w' ⟨rfl, hb⟩
    exact ⟨by rw [HF.out, if_pos hk], hb⟩
  · clear main
    have k1 : (k == 1) = false := beq_eq_false_iff_ne.2 (fun h => hk (.inl h))
    have k2 : (k == 2) = false := beq_eq_false_iff_ne.2 (fun h => hk (.inr h))
    by_cases h3 : k = 3
    · have HR : Hid (R = F) := hide (by rw [HF.out, if_neg hk, if_pos h3])
      clear hk HF
      subst h3
      go_enter Tryz.func115, Tryz.ntmps115
      go_wp2_with fail
      refine (X.out _).mono ?_
      rintro e w1 ⟨rfl, hb⟩
      have HB2 := hide (HB.out.trans (hb.mono (by simp)))
      clear hb
      go_wp2_with fail
      go_ret
      exact ⟨by rw [HR.out]; rfl, HB2.out⟩
    · have HR : Hid (R = false) := hide (by rw [HF.out, if_neg hk, if_neg h3])
      have k3 : (k == 3) = false := beq_eq_false_iff_ne.2 h3
      clear hk h3 HF
      go_enter Tryz.func115, Tryz.ntmps115
      go_wp2_with fail
      go_ret
      exact ⟨by rw [HR.out]; rfl, HB.out⟩
end Go.Proofs.YthbackkcamgidaaGreatDoor
