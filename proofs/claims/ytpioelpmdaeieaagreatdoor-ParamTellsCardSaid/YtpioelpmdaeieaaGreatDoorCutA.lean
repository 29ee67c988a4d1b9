/- shortest, longest: where something holds; Cut's closures. -/
import Derived.Test.YtpioelpmdaeieaaGreatDoorGmF
import Derived.BigQuiet
namespace Go.Proofs.YtpioelpmdaeieaaGreatDoor
open Go.RowKit
set_option linter.unusedVariables false
abbrev LB := List UInt8
def shortN (f : Nat → Bool) (n : Nat) : Nat := ((List.range (n + 1)).find? f).getD 0
def longN (f : Nat → Bool) (n : Nat) : Nat := (((List.range (n + 1)).find? fun i => f (n - i)).map (n - ·)).getD 0
theorem short_at {f : Nat → Bool} {n i : Nat} (hi : i ≤ n) (h : f i = true) (hb : ∀ j, j < i → f j = false) : shortN f n = i := by
  unfold shortN
  rw [List.find?_range_eq_some.2 ⟨h, by simp; omega, fun j hj => by simp [hb j hj]⟩]; rfl
theorem short_no {f : Nat → Bool} {n : Nat} (hb : ∀ j, j ≤ n → f j = false) : shortN f n = 0 := by
  unfold shortN
  rw [List.find?_eq_none.2 (fun j hj => by simp at hj; simp [hb j (by omega)])]; rfl
theorem long_at {f : Nat → Bool} {n i : Nat} (hi : i ≤ n) (h : f (n - i) = true) (hb : ∀ j, j < i → f (n - j) = false) : longN f n = n - i := by
  unfold longN
  have e := (List.find?_range_eq_some (p := fun i => f (n - i)) (n := n + 1) (i := i)).2 ⟨h, by simp; omega, fun j hj => by simp [hb j hj]⟩
  rw [e]; rfl
theorem long_no {f : Nat → Bool} {n : Nat} (hb : ∀ j, j ≤ n → f (n - j) = false) : longN f n = 0 := by
  unfold longN
  have e := (List.find?_eq_none (p := fun i => f (n - i)) (l := List.range (n + 1))).2 (fun j hj => by simp at hj; simp [hb j (by omega)])
  rw [e]; rfl
theorem short_le (f : Nat → Bool) (n : Nat) : shortN f n ≤ n := by
  unfold shortN
  cases h : (List.range (n + 1)).find? f with
  | none => simp
  | some i =>
    have := List.mem_of_find?_eq_some h
    simp at this ⊢; omega
theorem long_le (f : Nat → Bool) (n : Nat) : longN f n ≤ n := by
  unfold longN
  cases h : (List.range (n + 1)).find? fun i => f (n - i) with
  | none => simp
  | some i => simp
theorem short_long (f : Nat → Bool) (n : Nat) : shortN f n ≤ longN f n := by
  unfold shortN longN
  cases h : (List.range (n + 1)).find? f with
  | none => simp
  | some i =>
    obtain ⟨h1, h2, _⟩ := List.find?_range_eq_some.1 h
    simp at h2
    cases h' : (List.range (n + 1)).find? fun i => f (n - i) with
    | none =>
      have := List.find?_eq_none.1 h' (n - i) (by simp; omega)
      rw [show n - (n - i) = i by omega] at this
      exact absurd h1 (by simpa using this)
    | some j =>
      obtain ⟨g1, g2, g3⟩ := List.find?_range_eq_some.1 h'
      simp at g2
      simp only [Option.getD_some, Option.map_some]
      rcases Nat.lt_or_ge (n - i) j with hj | hj
      · have := g3 (n - i) hj
        rw [show n - (n - i) = i by omega, h1] at this
        cases this
      · omega
end Go.Proofs.YtpioelpmdaeieaaGreatDoor
