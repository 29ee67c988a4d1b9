/- Frames: what comes of a cut. -/
import Derived.Test.YtgmpcgcmcheelaaFrameM
namespace Go.Proofs.Ytgmpcgcmcheelaa
set_option linter.unusedVariables false
theorem take2_app {x : Bs} (h : 2 ≤ x.length) (y : Bs) : (x ++ y).take 2 = x.take 2 := List.take_append_of_le_length h
theorem bad_app {x : Bs} (h : 2 ≤ x.length) (y : Bs) : bad (x ++ y) = bad x := by unfold bad; rw [take2_app h y]
/-- What is cut off a beginning stays cut off, and the rest goes on with what follows. -/
theorem read_ext : ∀ (k : Nat) (x y : Bs), x.length ≤ k → readD (x ++ y) = if (readD x).2.2 = 5 then ((readD x).1, [], 5) else ((readD x).1 ++ (readD ((readD x).2.1 ++ y)).1, (readD ((readD x).2.1 ++ y)).2) := by
  intro k
  induction k with
  | zero =>
    intro x y h
    obtain rfl := List.eq_nil_of_length_eq_zero (Nat.le_zero.1 h)
    rw [read_nil, if_neg (by decide)]; rfl
  | succ k ih =>
    intro x y h
    by_cases h0 : x = []
    · subst h0; rw [read_nil, if_neg (by decide)]; rfl
    · rcases Nat.lt_or_ge x.length 2 with h1 | h2
      · rw [read_one h0 h1, if_neg (by show ¬ (3 : Int) = 5; decide)]; rfl
      · cases hb : bad x
        · rcases Nat.lt_or_ge x.length (2 + numB (x.take 2)) with h3 | h4
          · rw [read_short h2 hb h3, if_neg (by show ¬ (3 : Int) = 5; decide)]; rfl
          · have hb2 : bad (x ++ y) = false := by rw [bad_app h2, hb]
            have hsz := bad_no hb
            have e1 := read_next (d := x ++ y) (by simp; omega) hb2 (by rw [take2_app h2, List.length_append]; omega)
            rw [take2_app h2] at e1
            have e2 : (x ++ y).drop (2 + numB (x.take 2)) = x.drop (2 + numB (x.take 2)) ++ y := List.drop_append_of_le_length h4
            have e3 : ((x ++ y).drop 2).take (numB (x.take 2)) = (x.drop 2).take (numB (x.take 2)) := by
              rw [List.drop_append_of_le_length h2, List.take_append_of_le_length (by rw [List.length_drop]; omega)]
            have e4 := ih (x.drop (2 + numB (x.take 2))) y (by rw [List.length_drop]; omega)
            rw [e1, e2, e3, e4, read_next h2 hb h4]
            generalize readD (x.drop (2 + numB (x.take 2))) = r
            by_cases h5 : r.2.2 = 5
            · rw [if_pos h5]; show _ = if r.2.2 = 5 then _ else _; rw [if_pos h5]
            · rw [if_neg h5]; show _ = if r.2.2 = 5 then _ else _; rw [if_neg h5]; rfl
        · rw [read_bad h2 hb, if_pos rfl, read_bad (by simp; omega) (by rw [bad_app h2, hb])]
/-- What is left has no body in it, and no fault. -/
theorem read_rest : ∀ (k : Nat) (x : Bs), x.length ≤ k → (readD x).2.2 ≠ 5 → (readD (readD x).2.1).1 = [] ∧ (readD (readD x).2.1).2.2 ≠ 5 := by
  intro k
  induction k with
  | zero =>
    intro x h _
    obtain rfl := List.eq_nil_of_length_eq_zero (Nat.le_zero.1 h)
    exact ⟨rfl, by decide⟩
  | succ k ih =>
    intro x h h5
    by_cases h0 : x = []
    · subst h0; exact ⟨rfl, by decide⟩
    · rcases Nat.lt_or_ge x.length 2 with h1 | h2
      · have e := read_one h0 h1
        rw [e]
        show (readD x).1 = [] ∧ (readD x).2.2 ≠ 5
        rw [e]; exact ⟨rfl, by show (3 : Int) ≠ 5; decide⟩
      · cases hb : bad x
        · rcases Nat.lt_or_ge x.length (2 + numB (x.take 2)) with h3 | h4
          · have e := read_short h2 hb h3
            rw [e]
            show (readD x).1 = [] ∧ (readD x).2.2 ≠ 5
            rw [e]; exact ⟨rfl, by show (3 : Int) ≠ 5; decide⟩
          · rw [read_next h2 hb h4] at h5 ⊢
            exact ih _ (by rw [List.length_drop]; omega) h5
        · rw [read_bad h2 hb] at h5
          exact absurd rfl h5
theorem read_rest5 {x : Bs} (h : (readD x).2.2 = 5) : (readD x).2.1 = [] := by
  have key : ∀ (k : Nat) (x : Bs), x.length ≤ k → (readD x).2.2 = 5 → (readD x).2.1 = [] := by
    intro k
    induction k with
    | zero =>
      intro x h _
      obtain rfl := List.eq_nil_of_length_eq_zero (Nat.le_zero.1 h)
      rfl
    | succ k ih =>
      intro x h h5
      by_cases h0 : x = []
      · subst h0; rfl
      · rcases Nat.lt_or_ge x.length 2 with h1 | h2
        · rw [read_one h0 h1] at h5; exact absurd h5 (by show ¬ (3 : Int) = 5; decide)
        · cases hb : bad x
          · rcases Nat.lt_or_ge x.length (2 + numB (x.take 2)) with h3 | h4
            · rw [read_short h2 hb h3] at h5; exact absurd h5 (by show ¬ (3 : Int) = 5; decide)
            · rw [read_next h2 hb h4] at h5 ⊢
              exact ih _ (by rw [List.length_drop]; omega) h5
          · rw [read_bad h2 hb]
  exact key _ x (Nat.le_refl _) h
end Go.Proofs.Ytgmpcgcmcheelaa
