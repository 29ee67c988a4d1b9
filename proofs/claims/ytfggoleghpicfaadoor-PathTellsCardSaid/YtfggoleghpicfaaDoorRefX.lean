/- The reference's contracts: Inside. -/
import Derived.Test.YtfggoleghpicfaaDoorRefV
import Derived.Outline
namespace Go.Proofs.YtfggoleghpicfaaDoor
open Go.RowKit
set_option linter.unusedVariables false
theorem join_app : ∀ (a b : List Bs), a ≠ [] → b ≠ [] → Lib.join (a ++ b) [47] = Lib.join a [47] ++ 47 :: Lib.join b [47]
  | [], _, h, _ => absurd rfl h
  | [x], [], _, h => absurd rfl h
  | [x], y :: r, _, _ => by rw [List.singleton_append, join_two, Lib.join_one]
  | x :: y :: r, b, _, h => by
    rw [List.cons_append, List.cons_append, join_two, join_two, ← List.cons_append, join_app (y :: r) b (by simp) h]
    simp
theorem parts_clean_true (p : Bs) (hp : rooted p = true) : parts (clean p) = cleaned p true := by
  rw [parts_clean, hp]
  unfold partsOf
  rw [if_neg (by simp)]
theorem clean_true (p : Bs) (hp : rooted p = true) : clean p = 47 :: Lib.join (cleaned p true) [47] := by
  unfold clean text; rw [hp, if_pos rfl]
theorem pre_iff (a b : Bs) : Lib.hasPrefix a b = true ↔ b <+: a := by
  unfold Lib.hasPrefix
  exact List.isPrefixOf_iff_prefix
theorem inside_plain (p r : Bs) (hp : rooted p = true) (hr : rooted r = true) : insideP p r = (cleaned r true).isPrefixOf (cleaned p true) := by
  have ep := parts_clean_true p hp
  have er := parts_clean_true r hr
  have cp := clean_true p hp
  have cr := clean_true r hr
  unfold insideP
  rw [if_pos ⟨hp, hr⟩, Bool.eq_iff_iff]
  simp only [Bool.or_eq_true, beq_iff_eq, pre_iff, List.isPrefixOf_iff_prefix]
  constructor
  · rintro ((h | h) | ⟨t, h⟩)
    · rw [h] at er
      rw [← er]
      exact List.nil_prefix
    · rw [h] at ep
      rw [← ep, ← er]
      exact List.prefix_refl _
    · rw [← h, show clean r ++ [47] ++ t = clean r ++ 47 :: t by simp, parts_app, er] at ep
      rw [← ep]
      exact List.prefix_append _ _
  · rintro ⟨t, h⟩
    by_cases h0 : cleaned r true = []
    · rw [h0, Lib.join_nil] at cr
      exact .inl (.inl cr)
    · by_cases ht : t = []
      · rw [ht, List.append_nil] at h
        rw [← h, ← cr] at cp
        exact .inl (.inr cp)
      · rw [← h, join_app _ _ h0 ht] at cp
        refine .inr ⟨Lib.join t [47], ?_⟩
        rw [cp, cr]
        simp
theorem inside_not (p r : Bs) (h : rooted p = false ∨ rooted r = false) : insideP p r = false := by
  unfold insideP
  rw [if_neg (by rintro ⟨h1, h2⟩; rcases h with h | h <;> simp_all)]
theorem pre_long (a b : List Bs) (h : a.length < b.length) : b.isPrefixOf a = false := by
  rw [Bool.eq_false_iff]
  intro e
  have := (List.isPrefixOf_iff_prefix.1 e).length_le
  omega
theorem pre_diff (a b : List Bs) (k : Nat) (ha : k < a.length) (hb : k < b.length) (h : a[k] ≠ b[k]) : b.isPrefixOf a = false := by
  rw [Bool.eq_false_iff]
  intro e
  obtain ⟨t, rfl⟩ := List.isPrefixOf_iff_prefix.1 e
  exact h (List.getElem_append_left hb)
theorem pre_all (a b : List Bs) (h : a.take b.length = b) : b.isPrefixOf a = true := by
  rw [List.isPrefixOf_iff_prefix, ← h]
  exact List.take_prefix _ _
theorem pre_next (a b : List Bs) (k : Nat) (ha : k < a.length) (hb : k < b.length) (h : a[k] = b[k]) (e : a.take k = b.take k) : a.take (k + 1) = b.take (k + 1) := by
  rw [List.take_succ_eq_append_getElem ha, List.take_succ_eq_append_getElem hb, e, h]
end Go.Proofs.YtfggoleghpicfaaDoor
