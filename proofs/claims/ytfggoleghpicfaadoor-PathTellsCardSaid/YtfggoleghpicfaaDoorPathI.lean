/- What is within a path's directory is inside of it: as plain lists. -/
import Derived.Test.YtfggoleghpicfaaDoorPathO
namespace Go.Proofs.YtfggoleghpicfaaDoor
open Go.RowKit
set_option linter.unusedVariables false
theorem join_snoc (ks : List Bs) (x : Bs) (h : ks ≠ []) : Lib.join (ks ++ [x]) [47] = Lib.join ks [47] ++ 47 :: x := by
  induction ks with
  | nil => exact absurd rfl h
  | cons y r ih =>
    cases r with
    | nil => rw [List.cons_append, List.nil_append, join_two, Lib.join_one, Lib.join_one]
    | cons z r =>
      rw [List.cons_append, List.cons_append, join_two, join_two]
      have := ih (by simp)
      rw [List.cons_append] at this
      rw [this]; simp
/-- A name. -/
def NameOk (k : Bs) : Prop := k ≠ [] ∧ k ≠ [46] ∧ k ≠ [46, 46] ∧ (47 : UInt8) ∉ k
theorem prefix_iff (s p : Bs) : Lib.hasPrefix s p = true ↔ ∃ t, s = p ++ t := by
  unfold Lib.hasPrefix
  rw [List.isPrefixOf_iff_prefix]
  exact ⟨fun ⟨t, h⟩ => ⟨t, h.symm⟩, fun ⟨t, h⟩ => ⟨t, h.symm⟩⟩
theorem not_rooted {k : Bs} (h : NameOk k) : rooted k = false := by
  cases k with
  | nil => exact rooted_nil
  | cons x r =>
    rw [rooted_cons, beq_eq_false_iff_ne]
    rintro rfl
    exact h.2.2.2 (by simp)
section
variable {p k : Bs} (hp : rooted p = true) (hk : NameOk k)
include hp hk
omit hp in
theorem cleaned_snoc : cleaned (p ++ 47 :: k) true = cleaned p true ++ [k] := by
  unfold cleaned
  rw [parts_app, parts_one k ⟨hk.1, hk.2.2.2⟩, List.foldl_append]
  simp only [List.foldl_cons, List.foldl_nil, stepP, if_neg hk.2.1, hk.2.2.1, ne_eq, not_false_eq_true, if_true]
theorem joinP_eq : joinP p k = text true (cleaned p true ++ [k]) := by
  unfold joinP
  rw [if_neg (by
    rintro (h | h)
    · exact rooted_ne hp h
    · rw [not_rooted hk] at h; cases h)]
  unfold clean
  rw [rooted_app (rooted_ne hp), hp, cleaned_snoc hk]
theorem rooted_joinP : rooted (joinP p k) = true := by
  have := cleaned_inv (p ++ 47 :: k) true
  rw [cleaned_snoc hk] at this
  rw [joinP_eq hp hk, rooted_text this]
theorem clean_joinP : clean (joinP p k) = joinP p k := by
  have := cleaned_inv (p ++ 47 :: k) true
  rw [cleaned_snoc hk] at this
  rw [joinP_eq hp hk, clean_text this]
/-- The path of what is within a directory: the root's own, or the directory's with a slash and the name behind it. -/
theorem joinP_form : (clean p = [47] ∧ joinP p k = 47 :: k) ∨ (clean p ≠ [47] ∧ joinP p k = clean p ++ 47 :: k) := by
  have hc : clean p = text true (cleaned p true) := by unfold clean; rw [hp]
  rw [joinP_eq hp hk, hc]
  by_cases h : cleaned p true = []
  · left
    rw [h]
    exact ⟨rfl, by simp [text, Lib.join_one]⟩
  · right
    refine ⟨?_, ?_⟩
    · intro e
      simp only [text, if_true, List.cons.injEq, true_and] at e
      exact h ((join_nil_iff (cleaned_inv p true)).1 e)
    · simp only [text, if_true, join_snoc _ k h, List.cons_append]
theorem inside_up : insideP (joinP p k) p = true := by
  unfold insideP
  rw [if_pos ⟨rooted_joinP hp hk, hp⟩, clean_joinP hp hk]
  rcases joinP_form hp hk with ⟨h1, h2⟩ | ⟨h1, h2⟩
  · rw [h1]; simp
  · have : Lib.hasPrefix (joinP p k) (clean p ++ [47]) = true := by
      rw [prefix_iff]; exact ⟨k, by rw [h2]; simp⟩
    rw [this]; simp
theorem inside_down : insideP p (joinP p k) = false := by
  unfold insideP
  rw [if_pos ⟨hp, rooted_joinP hp hk⟩, clean_joinP hp hk]
  have hkl : 0 < k.length := List.length_pos_iff.2 hk.1
  have hl : (clean p).length < (joinP p k).length := by
    rcases joinP_form hp hk with ⟨h1, h2⟩ | ⟨h1, h2⟩
    · rw [h1, h2]; simp; exact hkl
    · rw [h2]; simp
  have hn : 1 ≤ (clean p).length := List.length_pos_iff.2 (clean_ne p)
  have a1 : (joinP p k == [47]) = false := by
    rw [beq_eq_false_iff_ne]; intro e; have := congrArg List.length e; simp at this; omega
  have a2 : (clean p == joinP p k) = false := by
    rw [beq_eq_false_iff_ne]; intro e; rw [e] at hl; omega
  have a3 : Lib.hasPrefix (clean p) (joinP p k ++ [47]) = false := by
    rw [Bool.eq_false_iff]
    intro h
    obtain ⟨t, ht⟩ := (prefix_iff _ _).1 h
    rw [ht] at hl
    simp at hl
    omega
  rw [a1, a2, a3]; rfl
omit hk in
theorem inside_self : insideP p p = true := by
  unfold insideP
  rw [if_pos ⟨hp, hp⟩]; simp
omit hk in
theorem inside_root : insideP p [47] = true := by
  unfold insideP
  rw [if_pos ⟨hp, by decide⟩]
  have : clean [47] = [47] := by decide
  rw [this]; simp
theorem inside_more {r : Bs} (h : insideP p r = true) : insideP (joinP p k) r = true := by
  unfold insideP at h ⊢
  by_cases hr : rooted r = true
  · rw [if_pos ⟨hp, hr⟩] at h
    rw [if_pos ⟨rooted_joinP hp hk, hr⟩, clean_joinP hp hk]
    simp only [Bool.or_eq_true, beq_iff_eq] at h ⊢
    rcases h with (h | h) | h
    · exact .inl (.inl h)
    · have := inside_up hp hk
      unfold insideP at this
      rw [if_pos ⟨rooted_joinP hp hk, hp⟩, clean_joinP hp hk, h] at this
      simpa using this
    · right
      obtain ⟨t, ht⟩ := (prefix_iff _ _).1 h
      rcases joinP_form hp hk with ⟨h1, h2⟩ | ⟨h1, h2⟩
      · rw [h1] at ht
        have hcr := clean_ne r
        cases hc : clean r with
        | nil => exact absurd hc hcr
        | cons a b => rw [hc] at ht; simp at ht
      · rw [prefix_iff]
        exact ⟨t ++ 47 :: k, by rw [h2, ht]; simp⟩
  · rw [if_neg (fun h => hr h.2)] at h; cases h
end
end Go.Proofs.YtfggoleghpicfaaDoor
