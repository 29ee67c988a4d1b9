/- Tokens survive being written with a blank between them: the plain mathematics. No program in it. -/
import Derived.Test.YtpfcfcbljkdkhaaDoorLexR
namespace Go.Proofs.YtpfcfcbljkdkhaaDoor
set_option linter.unusedVariables false
section
variable {s t : LB} {i j n : Nat}
/-- The text t has at j, for n bytes, what s has at i; behind it t has a blank. -/
structure Loc (s t : LB) (i j n : Nat) : Prop where
  inS : i + n ≤ s.length
  inT : j + n < t.length
  same : ∀ k, k < n → t.getD (j + k) 0 = s.getD (i + k) 0
  blank : t.getD (j + n) 0 = 32
  back : i + n = s.length → 0 < n → s.getD (i + n - 1) 0 ≠ 92
theorem find_loc (h : Loc s t i j n) {m k : Nat} (hm : m ≤ n) (hf : (s.drop (i + m)).findIdx? qz = some k) (hk : m + k < n) : (t.drop (j + m)).findIdx? qz = some k := by
  obtain ⟨h1, h2, h3⟩ := List.findIdx?_eq_some_iff_getElem.1 hf
  have hT := h.inT
  have e : ∀ q (hq : q < (s.drop (i + m)).length) (hq' : q < (t.drop (j + m)).length), m + q < n → (t.drop (j + m))[q] = (s.drop (i + m))[q] := fun q hq hq' hqn => by
    have := h.same (m + q) hqn
    rw [List.length_drop] at hq hq'
    simp only [List.getElem_drop]
    rw [List.getD_eq_getElem?_getD, List.getD_eq_getElem?_getD, List.getElem?_eq_getElem (by omega), List.getElem?_eq_getElem (by omega)] at this
    simp only [Option.getD_some] at this
    simpa [Nat.add_assoc] using this
  have hlt : k < (t.drop (j + m)).length := by rw [List.length_drop]; omega
  refine List.findIdx?_eq_some_iff_getElem.2 ⟨hlt, ?_, fun q hq => ?_⟩
  · rw [e k h1 hlt (by omega)]; exact h2
  · rw [e q (by omega) (by omega) (by omega)]; exact h3 q hq
theorem single_loc (h : Loc s t i j n) {m : Nat} (hm : m ≤ n) (hb : (singleL s (i + m)).2.2 = true) (hle : (singleL s (i + m)).1 ≤ i + n) :
    singleL t (j + m) = (j + ((singleL s (i + m)).1 - i), 0, true) := by
  unfold singleL at hb hle ⊢
  cases hf : (s.drop (i + m)).findIdx? qz with
  | none => rw [hf] at hb; simp at hb
  | some k =>
    rw [hf] at hb hle
    dsimp only at hb hle
    by_cases hz : s.getD (i + m + k) 0 = 0
    · rw [if_pos hz] at hb; simp at hb
    · rw [if_neg hz] at hb hle
      dsimp only at hle
      rw [find_loc h hm hf (by omega)]
      dsimp only
      rw [if_neg hz]
      have := h.same (m + k) (by omega)
      rw [show j + m + k = j + (m + k) by omega, this, show i + (m + k) = i + m + k by omega, if_neg hz]
      dsimp only
      rw [show j + (m + k) + 1 = j + (i + m + k + 1 - i) by omega]
theorem step_loc (h : Loc s t i j n) {m : Nat} (hm : m < n) (cl : LB) (hb : (stepL s (i + m) cl).2.2 = true) (hle : (stepL s (i + m) cl).1 ≤ i + n) :
    stepL t (j + m) cl = (j + ((stepL s (i + m) cl).1 - i), (stepL s (i + m) cl).2.1, true) := by
  have hc := h.same m hm
  have hd : m + 1 < n → t.getD (j + m + 1) 0 = s.getD (i + m + 1) 0 := fun h1 => h.same (m + 1) h1
  have hd2 : m + 1 = n → t.getD (j + m + 1) 0 = 32 := fun h1 => by have := h.blank; rw [← h1] at this; exact this
  have hS := h.inS
  have hT := h.inT
  have hs := single_loc h (m := m + 1) (by omega)
  unfold stepL at hb hle ⊢
  simp only [] at hb hle ⊢
  rw [hc]
  generalize hx : s.getD (i + m) 0 = c at *
  by_cases h0 : c = 0 ∨ c = 96
  · rw [if_pos h0] at hb; simp at hb
  rw [if_neg h0] at hb hle ⊢
  rw [if_neg h0]
  by_cases h92 : c = 92
  · rw [if_pos h92] at hb hle ⊢
    rw [if_pos h92]
    by_cases hz : i + m + 1 < s.length ∧ s.getD (i + m + 1) 0 = 0
    · rw [if_pos hz] at hb; simp at hb
    · rw [if_neg hz] at hle ⊢
      dsimp only at hle ⊢
      have hmn : m + 1 < n := by
        rcases Nat.lt_or_ge (m + 1) n with h1 | h1
        · exact h1
        · have hmn : m + 1 = n := by omega
          rcases Nat.lt_or_ge (i + m + 1) s.length with h2 | h2
          · rw [Nat.min_eq_left (by omega)] at hle; omega
          · have := h.back (by omega) (by omega)
            rw [show i + n - 1 = i + m by omega, hx] at this
            exact absurd h92 this
      rw [hd hmn, if_neg (fun h1 => hz ⟨by omega, h1.2⟩)]
      rw [Nat.min_eq_left (by omega), Nat.min_eq_left (by omega), show j + m + 2 = j + (i + m + 2 - i) by omega]
  rw [if_neg h92] at hb hle ⊢
  rw [if_neg h92]
  have one : (j + m + 1) = j + (i + m + 1 - i) := by omega
  by_cases hq : c = cl.getLastD 0
  · rw [if_pos hq, if_pos hq, one]
  rw [if_neg hq] at hb hle ⊢
  rw [if_neg hq]
  by_cases h1 : c = 36 ∧ s.getD (i + m + 1) 0 = 40
  · rw [if_pos h1] at hle ⊢
    dsimp only at hle
    rw [hd (by omega), if_pos h1, show j + m + 2 = j + (i + m + 2 - i) by omega]
  rw [if_neg h1] at hb hle ⊢
  by_cases h2 : c = 36 ∧ s.getD (i + m + 1) 0 = 123
  · rw [if_pos h2] at hle ⊢
    dsimp only at hle
    rw [hd (by omega), if_neg h1, if_pos h2, show j + m + 2 = j + (i + m + 2 - i) by omega]
  rw [if_neg h2] at hb hle ⊢
  have ht1 : ¬ (c = 36 ∧ t.getD (j + m + 1) 0 = 40) := by
    rcases Nat.lt_or_ge (m + 1) n with h3 | h3
    · rw [hd h3]; exact h1
    · rw [hd2 (by omega)]; exact fun h => absurd h.2 (by decide)
  have ht2 : ¬ (c = 36 ∧ t.getD (j + m + 1) 0 = 123) := by
    rcases Nat.lt_or_ge (m + 1) n with h3 | h3
    · rw [hd h3]; exact h2
    · rw [hd2 (by omega)]; exact fun h => absurd h.2 (by decide)
  rw [if_neg ht1, if_neg ht2]
  by_cases h34 : cl.getLastD 0 = 34
  · rw [if_pos h34, if_pos h34, one]
  rw [if_neg h34] at hb hle ⊢
  rw [if_neg h34]
  by_cases h5 : c = 34
  · rw [if_pos h5, if_pos h5, one]
  rw [if_neg h5] at hb hle ⊢
  rw [if_neg h5]
  by_cases h6 : c = 40
  · rw [if_pos h6, if_pos h6, one]
  rw [if_neg h6] at hb hle ⊢
  rw [if_neg h6]
  by_cases h7 : c = 39
  · rw [if_pos h7] at hb hle ⊢
    rw [if_pos h7]
    have := hs hb hle
    rw [show j + (m + 1) = j + m + 1 by omega] at this
    rw [this]
    have h21 := (singleL_facts s (i + (m + 1)) (by omega)).2.2.2
    rw [show i + (m + 1) = i + m + 1 by omega] at h21 ⊢
    rw [h21]
  rw [if_neg h7, if_neg h7, one]
theorem skipL_eq (p : LB) (f i : Nat) (cl : LB) (hi : i < p.length) : skipL p (f + 1) i cl = if (stepL p i cl).2.2 = false then ((stepL p i cl).1, false) else
    if closeL p i cl (stepL p i cl).2.1 = [] then ((stepL p i cl).1, true) else skipL p f (stepL p i cl).1 (closeL p i cl (stepL p i cl).2.1) := by
  rw [skipL, if_neg (by omega)]
theorem skip_loc (h : Loc s t i j n) : ∀ (f m : Nat) (cl : LB) (f' : Nat), m < n → t.length + 1 ≤ f' + (j + m) → (skipL s f (i + m) cl).2 = true → (skipL s f (i + m) cl).1 ≤ i + n →
    skipL t f' (j + m) cl = (j + ((skipL s f (i + m) cl).1 - i), true)
  | 0, m, cl, f', hm, hf, hb, hle => by simp [skipL] at hb
  | f + 1, m, cl, f', hm, hf, hb, hle => by
    have hS := h.inS
    have hT := h.inT
    obtain ⟨f', rfl⟩ : ∃ g, f' = g + 1 := ⟨f' - 1, by omega⟩
    rw [skipL_eq s f (i + m) cl (by omega)] at hb hle ⊢
    rw [skipL_eq t f' (j + m) cl (by omega)]
    by_cases hst : (stepL s (i + m) cl).2.2 = false
    · rw [if_pos hst] at hb; simp at hb
    rw [if_neg hst] at hb hle ⊢
    have hst' : (stepL s (i + m) cl).2.2 = true := by simpa using hst
    obtain ⟨g1, g2, g3⟩ := stepL_facts s (i + m) cl (by omega)
    have g3 := g3 hst'
    have hcl : ∀ o, closeL t (j + m) cl o = closeL s (i + m) cl o := fun o => by
      unfold closeL
      rw [h.same m hm]
    by_cases he : closeL s (i + m) cl (stepL s (i + m) cl).2.1 = []
    · rw [if_pos he] at hle ⊢
      dsimp only at hle
      have := step_loc h hm cl hst' hle
      rw [this]
      dsimp only
      rw [if_neg (by simp), hcl, if_pos he]
    · rw [if_neg he] at hb hle ⊢
      have hsf := (skipL_facts s f (stepL s (i + m) cl).1 (closeL s (i + m) cl (stepL s (i + m) cl).2.1)).2 hb
      have := step_loc h hm cl hst' (by omega)
      rw [this]
      dsimp only
      rw [if_neg (by simp), hcl, if_neg he]
      obtain ⟨m2, hm2⟩ : ∃ m2, (stepL s (i + m) cl).1 = i + m2 := ⟨(stepL s (i + m) cl).1 - i, by omega⟩
      rw [hm2] at hb hle hsf g3 ⊢
      rw [Nat.add_sub_cancel_left]
      exact skip_loc h f m2 _ f' (by omega) (by omega) hb hle
theorem word_loc (h : Loc s t i j n) : ∀ (f m f' : Nat), m ≤ n → t.length + 1 ≤ f' + (j + m) → s.length + 1 ≤ f + (i + m) → wordL s f (i + m) = (i + n, true) → wordL t f' (j + m) = (j + n, true)
  | 0, m, f', hm, hf, hfs, hb => by have := h.inS; omega
  | f + 1, m, f', hm, hf, hfs, hb => by
    have hS := h.inS
    have hT := h.inT
    obtain ⟨f', rfl⟩ : ∃ g, f' = g + 1 := ⟨f' - 1, by omega⟩
    rcases Nat.lt_or_ge m n with hmn | hmn
    · unfold wordL at hb ⊢
      rw [if_neg (by omega)] at hb ⊢
      rw [h.same m hmn]
      by_cases he : isEnd (s.getD (i + m) 0) = true
      · rw [if_pos he] at hb; simp at hb; omega
      rw [if_neg he] at hb ⊢
      by_cases hk : (skipP s (i + m)).2 = false
      · rw [if_pos hk] at hb; simp at hb
      rw [if_neg hk] at hb
      have hk' : (skipP s (i + m)).2 = true := by simpa using hk
      have hlt := (skipP_facts s (i + m)).2 hk'
      have hwf := wordL_facts s f (skipP s (i + m)).1 (skipP_facts s (i + m)).1
      rw [hb] at hwf
      have hge := hwf.2 rfl
      dsimp only at hge
      have := skip_loc h (s.length + 1) m [] (t.length + 1) hmn (by omega) hk' hge
      have he2 : skipP t (j + m) = (j + ((skipP s (i + m)).1 - i), true) := this
      rw [he2]
      dsimp only
      rw [if_neg (by decide)]
      obtain ⟨m2, hm2⟩ : ∃ m2, (skipP s (i + m)).1 = i + m2 := ⟨(skipP s (i + m)).1 - i, by omega⟩
      rw [hm2] at hb hge hlt ⊢
      rw [Nat.add_sub_cancel_left]
      exact word_loc h f m2 f' (by omega) (by omega) (by omega) hb
    · obtain rfl : m = n := by omega
      unfold wordL
      rw [if_neg (by omega), h.blank, if_pos (by decide)]
end
end Go.Proofs.YtpfcfcbljkdkhaaDoor
