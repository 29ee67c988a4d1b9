/- Elements that hold elements: a stack, or a function that calls itself. No program in it. -/
import Derived.Test.YtpfcfcbljkdkhaaDoorLexM
namespace Go.Proofs.YtpfcfcbljkdkhaaDoor
set_option linter.unusedVariables false
theorem skipL_fuel (p : LB) : ∀ (f g i : Nat) (cl : LB), p.length + 1 ≤ f + i → p.length + 1 ≤ g + i → skipL p f i cl = skipL p g i cl
  | 0, 0, i, cl, hf, hg => rfl
  | 0, g + 1, i, cl, hf, hg => by
    unfold skipL
    rw [if_pos (by omega)]
  | f + 1, 0, i, cl, hf, hg => by
    unfold skipL
    rw [if_pos (by omega)]
  | f + 1, g + 1, i, cl, hf, hg => by
    unfold skipL
    by_cases h1 : p.length ≤ i
    · rw [if_pos h1, if_pos h1]
    · rw [if_neg h1, if_neg h1]
      have hs := stepL_facts p i cl (by omega)
      by_cases h2 : (stepL p i cl).2.2 = false
      · rw [if_pos h2, if_pos h2]
      · rw [if_neg h2, if_neg h2]
        have h3 := hs.2.2 (by simpa using h2)
        by_cases h4 : closeL p i cl (stepL p i cl).2.1 = []
        · rw [if_pos h4, if_pos h4]
        · rw [if_neg h4, if_neg h4]
          exact skipL_fuel p f g _ _ (by omega) (by omega)
def sk (p : LB) (i : Nat) (cl : LB) : Nat × Bool := skipL p (p.length + 1) i cl
theorem sk_nil (p : LB) (i : Nat) : skipP p i = sk p i [] := rfl
theorem sk_eq (p : LB) (i : Nat) (cl : LB) : sk p i cl = if p.length ≤ i then (p.length, false) else
    if (stepL p i cl).2.2 = false then ((stepL p i cl).1, false) else
    if closeL p i cl (stepL p i cl).2.1 = [] then ((stepL p i cl).1, true) else sk p (stepL p i cl).1 (closeL p i cl (stepL p i cl).2.1) := by
  by_cases h1 : p.length ≤ i
  · unfold sk skipL
    rw [if_pos h1, if_pos h1]
  · have hs := stepL_facts p i cl (by omega)
    show skipL p (p.length + 1) i cl = _
    rw [skipL]
    by_cases h2 : (stepL p i cl).2.2 = false
    · rw [if_neg h1, if_pos h2, if_neg h1, if_pos h2]
    · have h3 := hs.2.2 (by simpa using h2)
      rw [if_neg h1, if_neg h2, if_neg h1, if_neg h2]
      by_cases h4 : closeL p i cl (stepL p i cl).2.1 = []
      · rw [if_pos h4, if_pos h4]
      · rw [if_neg h4, if_neg h4]
        exact skipL_fuel p _ _ _ _ (by omega) (by omega)
theorem last_app (base ext : LB) (h : ext ≠ []) : (base ++ ext).getLastD 0 = ext.getLastD 0 := by
  rw [List.getLastD_eq_getLast?, List.getLastD_eq_getLast?, List.getLast?_append]
  cases hl : ext.getLast? with
  | none => exact absurd (List.getLast?_eq_none_iff.1 hl) h
  | some x => rfl
theorem step_app (p : LB) (i : Nat) (base ext : LB) (h : ext ≠ []) : stepL p i (base ++ ext) = stepL p i ext := by
  unfold stepL
  rw [last_app base ext h]
theorem close_app (p : LB) (i : Nat) (base ext : LB) (o : UInt8) (h : ext ≠ []) : closeL p i (base ++ ext) o = base ++ closeL p i ext o := by
  unfold closeL
  rw [last_app base ext h]
  split
  · simp
  · have h1 : (base ++ ext ≠ []) := by simp [h]
    by_cases h2 : p.getD i 0 = ext.getLastD 0
    · rw [if_pos ⟨h1, h2⟩, if_pos ⟨h, h2⟩, List.dropLast_append_of_ne_nil h]
    · rw [if_neg (fun x => h2 x.2), if_neg (fun x => h2 x.2)]
/-- A stack is worked off from its top: first what lies on top, then the rest. -/
theorem sk_app (p : LB) (base : LB) : ∀ (n i : Nat) (ext : LB), p.length ≤ i + n → ext ≠ [] → sk p i (base ++ ext) = if (sk p i ext).2 = false then ((sk p i ext).1, false) else if base = [] then ((sk p i ext).1, true) else sk p (sk p i ext).1 base
  | n, i, ext, hn, he => by
    rw [sk_eq p i (base ++ ext), sk_eq p i ext, step_app p i base ext he, close_app p i base ext _ he]
    by_cases h1 : p.length ≤ i
    · simp only [if_pos h1]; simp
    · simp only [if_neg h1]
      have hs := stepL_facts p i ext (by omega)
      by_cases h2 : (stepL p i ext).2.2 = false
      · simp only [if_pos h2]; simp
      · simp only [if_neg h2]
        have h3 := hs.2.2 (by simpa using h2)
        by_cases h4 : closeL p i ext (stepL p i ext).2.1 = []
        · simp only [h4, List.append_nil]
          simp
        · have h5 : base ++ closeL p i ext (stepL p i ext).2.1 ≠ [] := by simp [h4]
          simp only [if_neg h4, if_neg h5]
          obtain ⟨n, rfl⟩ : ∃ m, n = m + 1 := ⟨n - 1, by omega⟩
          exact sk_app p base n _ _ (by omega) h4
/-- What closes. -/
def Clo (o : UInt8) : Prop := o = 34 ∨ o = 41 ∨ o = 125
theorem sk_end (p : LB) (i : Nat) (cl : LB) (h : p.length ≤ i) : sk p i cl = (p.length, false) := by
  rw [sk_eq, if_pos h]
theorem sk_close (p : LB) (i : Nat) (o : UInt8) (ho : Clo o) (hi : i < p.length) (h : p.getD i 0 = o) : sk p i [o] = (i + 1, true) := by
  have hs : stepL p i [o] = (i + 1, 0, true) := by
    unfold stepL
    rw [h]
    rcases ho with rfl | rfl | rfl <;> simp
  rw [sk_eq, if_neg (by omega), hs, if_neg (by simp), if_pos]
  unfold closeL
  rw [if_neg (by simp), if_pos ⟨by simp, by rw [h]; rfl⟩]
  rfl
theorem sk_byte (p : LB) (i : Nat) (hi : i < p.length) (h : p.getD i 0 = 39 ∨ p.getD i 0 = 40) : sk p i [34] = sk p (i + 1) [34] := by
  have hs : stepL p i [34] = (i + 1, 0, true) := by
    unfold stepL
    rcases h with h | h <;> rw [h] <;> simp
  have hc : closeL p i [34] 0 = [34] := by
    unfold closeL
    rw [if_neg (by simp), if_neg]
    rcases h with h | h <;> rw [h] <;> simp
  rw [sk_eq p i, if_neg (by omega), hs, if_neg (by simp)]
  dsimp only
  rw [hc, if_neg (by simp)]
theorem step_same (p : LB) (i : Nat) (o : UInt8) (ho : Clo o) (h : p.getD i 0 ≠ o) (h2 : o = 34 → p.getD i 0 ≠ 39 ∧ p.getD i 0 ≠ 40) : stepL p i [o] = stepL p i [] := by
  unfold stepL
  by_cases c1 : p.getD i 0 = 0 ∨ p.getD i 0 = 96
  · simp only [if_pos c1]
  simp only [if_neg c1]
  by_cases c2 : p.getD i 0 = 92
  · simp only [if_pos c2]
  simp only [if_neg c2]
  have c3 : ¬ p.getD i 0 = ([] : LB).getLastD 0 := fun x => c1 (.inl x)
  have c4 : ¬ p.getD i 0 = ([o] : LB).getLastD 0 := h
  simp only [if_neg c3, if_neg c4]
  by_cases c5 : p.getD i 0 = 36 ∧ p.getD (i + 1) 0 = 40
  · simp only [if_pos c5]
  simp only [if_neg c5]
  by_cases c6 : p.getD i 0 = 36 ∧ p.getD (i + 1) 0 = 123
  · simp only [if_pos c6]
  simp only [if_neg c6]
  have c7 : ¬ ([] : LB).getLastD 0 = 34 := by decide
  simp only [if_neg c7]
  by_cases c8 : ([o] : LB).getLastD 0 = 34
  · have ho2 : o = 34 := c8
    have h3 := h2 ho2
    rw [ho2] at h
    simp only [if_pos c8, if_neg h, if_neg h3.1, if_neg h3.2]
  · simp only [if_neg c8]
theorem sk_elem (p : LB) (i : Nat) (o : UInt8) (ho : Clo o) (hi : i < p.length) (h : p.getD i 0 ≠ o) (h2 : o = 34 → p.getD i 0 ≠ 39 ∧ p.getD i 0 ≠ 40) : sk p i [o] = if (skipP p i).2 = false then ((skipP p i).1, false) else sk p (skipP p i).1 [o] := by
  rw [sk_nil, sk_eq p i [o], sk_eq p i [], step_same p i o ho h h2]
  simp only [if_neg (show ¬ p.length ≤ i by omega)]
  by_cases c1 : (stepL p i []).2.2 = false
  · simp only [if_pos c1]; simp
  simp only [if_neg c1]
  by_cases c2 : (stepL p i []).2.1 = 0
  · have hc : closeL p i [o] (stepL p i []).2.1 = [o] := by
      unfold closeL
      rw [if_neg (by simp [c2]), if_neg (fun x => h x.2)]
    have hc2 : closeL p i [] (stepL p i []).2.1 = [] := by
      unfold closeL
      rw [if_neg (by simp [c2]), if_neg (by simp)]
    rw [hc, hc2]
    simp
  · have hc : closeL p i [o] (stepL p i []).2.1 = [o] ++ [(stepL p i []).2.1] := by
      unfold closeL
      rw [if_pos c2]
    have hc2 : closeL p i [] (stepL p i []).2.1 = [(stepL p i []).2.1] := by
      unfold closeL
      rw [if_pos c2]; rfl
    rw [hc, hc2, sk_app p [o] p.length _ _ (by omega) (by simp)]
    simp
/-- An element's head. -/
theorem sk_head (p : LB) (i : Nat) (hi : i < p.length) : sk p i [] = (let c := p.getD i 0; let d := p.getD (i + 1) 0
    if c = 0 ∨ c = 96 then (i, false) else if c = 92 then (if i + 1 < p.length ∧ d = 0 then (i + 1, false) else (min (i + 2) p.length, true))
    else if c = 36 ∧ d = 40 then sk p (i + 2) [41] else if c = 36 ∧ d = 123 then sk p (i + 2) [125] else if c = 34 then sk p (i + 1) [34] else if c = 40 then sk p (i + 1) [41]
    else if c = 39 then ((singleL p (i + 1)).1, (singleL p (i + 1)).2.2) else (i + 1, true)) := by
  rw [sk_eq, if_neg (by omega)]
  dsimp only
  have hcl : ∀ o : UInt8, o ≠ 0 → closeL p i [] o = [o] := fun o h => by unfold closeL; rw [if_pos h]; rfl
  have hc0 : closeL p i [] 0 = [] := by unfold closeL; rw [if_neg (by simp), if_neg (by simp)]
  have hl : ([] : LB).getLastD 0 = 0 := rfl
  unfold stepL
  dsimp only
  rw [hl]
  by_cases c1 : p.getD i 0 = 0 ∨ p.getD i 0 = 96
  · simp only [if_pos c1]; simp
  simp only [if_neg c1]
  by_cases c2 : p.getD i 0 = 92
  · simp only [if_pos c2]
    by_cases c2b : i + 1 < p.length ∧ p.getD (i + 1) 0 = 0
    · simp only [if_pos c2b]; simp
    · simp only [if_neg c2b, hc0]; simp
  simp only [if_neg c2]
  have c3 : ¬ p.getD i 0 = 0 := fun x => c1 (.inl x)
  simp only [if_neg c3]
  by_cases c5 : p.getD i 0 = 36 ∧ p.getD (i + 1) 0 = 40
  · simp only [if_pos c5, hcl 41 (by decide)]; simp
  simp only [if_neg c5]
  by_cases c6 : p.getD i 0 = 36 ∧ p.getD (i + 1) 0 = 123
  · simp only [if_pos c6, hcl 125 (by decide)]; simp
  simp only [if_neg c6]
  have c7 : ¬ (0 : UInt8) = 34 := by decide
  simp only [if_neg c7]
  by_cases c8 : p.getD i 0 = 34
  · simp only [if_pos c8, hcl 34 (by decide)]; simp
  simp only [if_neg c8]
  by_cases c9 : p.getD i 0 = 40
  · simp only [if_pos c9, hcl 41 (by decide)]; simp
  simp only [if_neg c9]
  by_cases c10 : p.getD i 0 = 39
  · simp only [if_pos c10]
    have hz := (singleL_facts p (i + 1) (by omega)).2.2.2
    rw [hz, hc0]
    cases (singleL p (i + 1)).2.2 <;> simp
  · simp only [if_neg c10, hc0]; simp
end Go.Proofs.YtpfcfcbljkdkhaaDoor
