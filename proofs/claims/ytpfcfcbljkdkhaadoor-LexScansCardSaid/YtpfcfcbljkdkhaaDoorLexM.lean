/- What the plain text of lexing keeps: bounds. No program in it. -/
import Derived.Test.YtpfcfcbljkdkhaaDoorLexS
namespace Go.Proofs.YtpfcfcbljkdkhaaDoor
set_option linter.unusedVariables false
theorem getD_pos {p : LB} {i : Nat} (h : p.getD i 0 ≠ 0) : i < p.length := by
  rcases Nat.lt_or_ge i p.length with h1 | h1
  · exact h1
  · exact absurd (by simp [List.getD_eq_getElem?_getD, List.getElem?_eq_none h1]) h
theorem singleL_facts (p : LB) (i : Nat) (hi : i ≤ p.length) : (singleL p i).1 ≤ p.length ∧ i ≤ (singleL p i).1 ∧ ((singleL p i).2.2 = true → i < (singleL p i).1) ∧ (singleL p i).2.1 = 0 := by
  unfold singleL
  split
  · exact ⟨Nat.le_refl _, hi, by simp, rfl⟩
  · rename_i k hk
    have := (List.findIdx?_eq_some_iff_getElem.1 hk).1
    rw [List.length_drop] at this
    split <;> simp <;> omega
theorem stepL_facts (p : LB) (i : Nat) (cl : LB) (hi : i < p.length) : (stepL p i cl).1 ≤ p.length ∧ i ≤ (stepL p i cl).1 ∧ ((stepL p i cl).2.2 = true → i < (stepL p i cl).1) := by
  unfold stepL
  have hd : ∀ d : UInt8, d ≠ 0 → p.getD (i + 1) 0 = d → i + 1 < p.length := fun d h0 h => getD_pos (by rw [h]; exact h0)
  have hs := singleL_facts p (i + 1) (by omega)
  simp only []
  repeat' split
  all_goals first
    | (simp; omega)
    | (rename_i h; have := hd 40 (by decide) h.2; simp; omega)
    | (rename_i h; have := hd 123 (by decide) h.2; simp; omega)
    | (refine ⟨hs.1, by omega, fun h => ?_⟩; have := hs.2.2.1 h; omega)
theorem skipL_facts (p : LB) : ∀ (f i : Nat) (cl : LB), (skipL p f i cl).1 ≤ p.length ∧ ((skipL p f i cl).2 = true → i < (skipL p f i cl).1)
  | 0, i, cl => by simp [skipL]
  | f + 1, i, cl => by
    unfold skipL
    split
    · simp
    · rename_i hi
      obtain ⟨h1, h2, h3⟩ := stepL_facts p i cl (by omega)
      split
      · exact ⟨h1, by simp⟩
      · rename_i hb
        have hb' : (stepL p i cl).2.2 = true := by simpa using hb
        split
        · exact ⟨h1, fun _ => h3 hb'⟩
        · obtain ⟨g1, g2⟩ := skipL_facts p f (stepL p i cl).1 (closeL p i cl (stepL p i cl).2.1)
          exact ⟨g1, fun h => by have := g2 h; have := h3 hb'; omega⟩
theorem skipP_facts (p : LB) (i : Nat) : (skipP p i).1 ≤ p.length ∧ ((skipP p i).2 = true → i < (skipP p i).1) := skipL_facts p _ i []
theorem lineP_35 {p : LB} {i : Nat} (h : p.getD i 0 = 35) : i < p.length ∧ 1 ≤ (lineP (p.drop i)).length ∧ i + (lineP (p.drop i)).length ≤ p.length := by
  have hi : i < p.length := getD_pos (by rw [h]; decide)
  refine ⟨hi, ?_, ?_⟩
  · rw [List.drop_eq_getElem_cons hi]
    have : p[i] = 35 := by simpa [List.getD_eq_getElem?_getD, hi] using h
    rw [this]; unfold lineP; simp
  · have := lineP_len (p.drop i)
    rw [List.length_drop] at this
    omega
theorem blankL_facts (p : LB) : ∀ (f i : Nat), i ≤ p.length → i ≤ blankL p f i ∧ blankL p f i ≤ p.length
  | 0, i, h => by simp [blankL, h]
  | f + 1, i, h => by
    unfold blankL
    split
    · omega
    · split
      · have := blankL_facts p f (i + 1) (by omega); omega
      · split
        · rename_i h2
          have := getD_pos (p := p) (i := i + 1) (by rw [h2.2]; decide)
          have := blankL_facts p f (i + 2) (by omega); omega
        · split
          · rename_i h3
            obtain ⟨a, b, c⟩ := lineP_35 h3
            have := blankL_facts p f _ c; omega
          · omega
theorem blankP_facts (p : LB) (i : Nat) (h : i ≤ p.length) : i ≤ blankP p i ∧ blankP p i ≤ p.length := blankL_facts p _ i h
theorem operP_le (r : LB) : operP r ≤ r.length := by
  unfold operP
  split
  · rename_i h
    have : r.getD 1 0 ≠ 0 := by
      intro e; rw [e] at h; simp [pairP] at h
    have := getD_pos this
    omega
  · split
    · rename_i h
      have : r.getD 0 0 ≠ 0 := by
        intro e; rw [e] at h; simp [opOne] at h
      have := getD_pos this
      omega
    · omega
theorem digs_le : ∀ (f : Nat) (r : LB), digs f r ≤ r.length ∧ digs f r ≤ f
  | 0, r => by simp [digs]
  | f + 1, [] => by simp [digs]
  | f + 1, c :: r => by
    have := digs_le f r
    unfold digs; split <;> simp <;> omega
theorem numP_le (r : LB) : numP r ≤ r.length := by
  unfold numP
  have := digs_le 4 r
  split <;> omega
theorem wordL_facts (p : LB) : ∀ (f e : Nat), e ≤ p.length → (wordL p f e).1 ≤ p.length ∧ ((wordL p f e).2 = true → e ≤ (wordL p f e).1)
  | 0, e, h => by simp [wordL, h]
  | f + 1, e, h => by
    unfold wordL
    have hs := skipP_facts p e
    split
    · simp [h]
    · split
      · simp [h]
      · split
        · exact ⟨hs.1, by simp⟩
        · rename_i hb
          have hb' : (skipP p e).2 = true := by simpa using hb
          obtain ⟨g1, g2⟩ := wordL_facts p f (skipP p e).1 hs.1
          exact ⟨g1, fun h => by have := g2 h; have := hs.2 hb'; omega⟩
theorem docL_facts (p del : LB) : ∀ (f i : Nat), i ≤ p.length → ∀ e nx, docL p del f i = some (e, nx) → i ≤ e ∧ e < p.length ∧ e < nx ∧ nx ≤ p.length
  | 0, i, h, e, nx, hd => by simp [docL] at hd
  | f + 1, i, h, e, nx, hd => by
    unfold docL at hd
    split at hd
    · cases hd
    · split at hd
      · injection hd with hd; injection hd with h1 h2; omega
      · have hl := lineP_len (p.drop i)
        rw [List.length_drop] at hl
        have := docL_facts p del f _ (by omega) e nx hd
        omega
theorem docsL_facts (p : LB) : ∀ (l : List Nat) (i : Nat) (ts : List T), i ≤ p.length → ∀ j us, docsL p l i ts = some (j, us) → i ≤ j ∧ j ≤ p.length ∧ us.length = ts.length
  | [], i, ts, h, j, us, hd => by simp [docsL] at hd; obtain ⟨rfl, rfl⟩ := hd; omega
  | k :: r, i, ts, h, j, us, hd => by
    unfold docsL at hd
    split at hd
    · cases hd
    · rename_i e nx hn
      have h1 := docL_facts p _ _ i h e nx hn
      have h2 := docsL_facts p r nx _ h1.2.2.2 j us hd
      rw [List.length_set] at h2
      omega
/-- A state within the text. -/
def SOk (p : LB) (s : S) : Prop := s.at_ ≤ p.length ∧ s.toks.length ≤ s.at_ ∧ s.fault ≤ p.length ∧ s.wait.length ≤ s.toks.length ∧ ∀ k ∈ s.wait, k < s.toks.length
theorem addS_ok {p : LB} {s : S} {k n : Nat} (h : SOk p s) (hn : 1 ≤ n) (h1 : s.at_ + n ≤ p.length) : SOk p (addS p s k n) := by
  obtain ⟨a, b, c, d, e⟩ := h
  refine ⟨h1, ?_, c, ?_, fun k hk => ?_⟩
  · simp [addS]; omega
  · simp [addS]; omega
  · have := e k hk
    simp [addS]; omega
theorem tokenS_ok {p : LB} {s : S} (h : SOk p s) (hi : s.at_ < p.length) : ((tokenS p s).2 = true → SOk p (tokenS p s).1 ∧ s.at_ < (tokenS p s).1.at_) ∧ ((tokenS p s).2 = false → (tokenS p s).1.fault ≤ p.length) := by
  have ho := operP_le (p.drop s.at_)
  have hn := numP_le (p.drop s.at_)
  rw [List.length_drop] at ho hn
  obtain ⟨a, b, c, d, e⟩ := h
  unfold tokenS
  split
  · have h0 := addS_ok (k := 4) ⟨a, b, c, d, e⟩ (Nat.le_refl 1) (by omega : s.at_ + 1 ≤ p.length)
    unfold docsS
    split
    · simp
    · rename_i j us hd
      have := docsL_facts p _ _ _ h0.1 j us hd
      have h1 : (addS p s 4 1).at_ = s.at_ + 1 := rfl
      refine ⟨fun _ => ⟨⟨this.2.1, ?_, h0.2.2.1, Nat.zero_le _, by simp⟩, ?_⟩, by simp⟩
      · have := h0.2.1; show us.length ≤ j; omega
      · show s.at_ < j; omega
  · split
    · rename_i h2
      exact ⟨fun _ => ⟨addS_ok ⟨a, b, c, d, e⟩ h2 (by omega), by simp [addS]; omega⟩, by simp⟩
    · split
      · rename_i h2
        exact ⟨fun _ => ⟨addS_ok ⟨a, b, c, d, e⟩ h2 (by omega), by simp [addS]; omega⟩, by simp⟩
      · have hw := wordL_facts p (p.length + 1) s.at_ a
        unfold wordS
        simp only []
        split
        · exact ⟨by simp, fun _ => hw.1⟩
        · rename_i hb
          have hb' : (wordL p (p.length + 1) s.at_).2 = true := by simpa using hb
          have hge := hw.2 hb'
          split
          · exact ⟨by simp, fun _ => a⟩
          · rename_i hne
            refine ⟨fun _ => ⟨?_, by simp [addS]; omega⟩, by simp⟩
            refine ⟨?_, ?_, c, ?_, fun k hk => ?_⟩
            · simp [addS]; omega
            · simp [addS]; omega
            · simp only [addS]
              split <;> simp <;> omega
            · simp only [addS] at hk ⊢
              split at hk
              · simp at hk ⊢
                rcases hk with hk | hk
                · have := e k hk; omega
                · omega
              · have := e k hk; simp; omega
theorem blank_ok {p : LB} {s : S} (h : SOk p s) : SOk p { s with at_ := blankP p s.at_ } := by
  obtain ⟨a, b, c, d, e⟩ := h
  have := blankP_facts p s.at_ a
  exact ⟨this.2, by show s.toks.length ≤ blankP p s.at_; omega, c, d, e⟩
end Go.Proofs.YtpfcfcbljkdkhaaDoor
