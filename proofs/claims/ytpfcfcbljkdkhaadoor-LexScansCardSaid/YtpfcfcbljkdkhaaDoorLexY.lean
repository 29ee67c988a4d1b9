/- Tokens survive being written with a blank between them: tokens and texts. No program in it. -/
import Derived.Test.YtpfcfcbljkdkhaaDoorLexX
namespace Go.Proofs.YtpfcfcbljkdkhaaDoor
set_option linter.unusedVariables false
theorem dropD (p : LB) (i j : Nat) : (p.drop i).getD j 0 = p.getD (i + j) 0 := by
  rw [List.getD_eq_getElem?_getD, List.getD_eq_getElem?_getD, List.getElem?_drop]
theorem takeD (p : LB) (n j : Nat) (h : j < n) : (p.take n).getD j 0 = p.getD j 0 := by
  rw [List.getD_eq_getElem?_getD, List.getD_eq_getElem?_getD, List.getElem?_take, if_pos h]
def NBl (t : LB) (j : Nat) : Prop := ¬ (t.getD j 0 = 32 ∨ t.getD j 0 = 9) ∧ ¬ (t.getD j 0 = 92 ∧ t.getD (j + 1) 0 = 10) ∧ t.getD j 0 ≠ 35
theorem blank_stay {t : LB} {j : Nat} (h : NBl t j) : ∀ f, blankL t f j = j
  | 0 => rfl
  | f + 1 => by
    unfold blankL
    split
    · rfl
    · rw [if_neg h.1, if_neg h.2.1, if_neg h.2.2]
theorem blank_stop (p : LB) : ∀ (f i : Nat), p.length + 1 ≤ f + i → p.length ≤ blankL p f i ∨ NBl p (blankL p f i)
  | 0, i, h => .inl (by simp [blankL]; omega)
  | f + 1, i, h => by
    unfold blankL
    split
    · rename_i h1; exact .inl h1
    · split
      · exact blank_stop p f (i + 1) (by omega)
      · split
        · exact blank_stop p f (i + 2) (by omega)
        · split
          · rename_i h3
            have := (lineP_35 h3).2.1
            exact blank_stop p f _ (by omega)
          · rename_i h1 h2 h3 h4
            exact .inr ⟨h2, h3, h4⟩
theorem digs_facts : ∀ (f : Nat) (r : LB), (∀ q, q < digs f r → dig (r.getD q 0) = true) ∧ (digs f r < f → dig (r.getD (digs f r) 0) = false)
  | 0, r => ⟨fun q h => by simp [digs] at h, fun h => by simp [digs] at h⟩
  | f + 1, [] => ⟨fun q h => by simp [digs] at h, fun _ => by simp [digs]; decide⟩
  | f + 1, c :: r => by
    obtain ⟨h1, h2⟩ := digs_facts f r
    unfold digs
    by_cases hc : dig c = true
    · rw [if_pos hc]
      refine ⟨fun q hq => ?_, fun h => ?_⟩
      · cases q with
        | zero => exact hc
        | succ q => exact h1 q (by omega)
      · exact h2 (by omega)
    · rw [if_neg hc]
      exact ⟨fun q h => absurd h (by omega), fun _ => by simpa using hc⟩
theorem digs_unique : ∀ (f m : Nat) (r : LB), m ≤ f → (∀ q, q < m → dig (r.getD q 0) = true) → (m < f → dig (r.getD m 0) = false) → digs f r = m
  | 0, m, r, h, _, _ => by simp [digs]; omega
  | f + 1, m, [], h, h1, h2 => by
    cases m with
    | zero => simp [digs]
    | succ m => have := h1 0 (by omega); simp at this; exact absurd this (by decide)
  | f + 1, m, c :: r, h, h1, h2 => by
    unfold digs
    cases m with
    | zero => have := h2 (by omega); rw [if_neg (by simpa using this)]
    | succ m =>
      have h0 := h1 0 (by omega)
      rw [if_pos (by simpa using h0), digs_unique f m r (by omega) (fun q hq => h1 (q + 1) (by omega)) (fun hm => h2 (by omega))]
theorem num_loc {s t : LB} {i j n : Nat} (h : Loc s t i j n) (hn : 0 < n) (h0 : numP (s.drop i) = 0) : numP (t.drop j) = 0 := by
  obtain ⟨a1, a2⟩ := digs_facts 4 (t.drop j)
  have e1 : ∀ q, q < n → (t.drop j).getD q 0 = (s.drop i).getD q 0 := fun q hq => by rw [dropD, dropD]; exact h.same q hq
  have e2 : (t.drop j).getD n 0 = 32 := by rw [dropD]; exact h.blank
  generalize hm : digs 4 (t.drop j) = m at *
  unfold numP
  rw [hm]
  by_cases h3 : 3 < m
  · rw [if_pos (.inl h3)]
  have hmn : m ≤ n := by
    rcases Nat.lt_or_ge n m with h4 | h4
    · have := a1 n h4; rw [e2] at this; exact absurd this (by decide)
    · exact h4
  rcases Nat.lt_or_ge m n with h4 | h4
  · have hs : digs 4 (s.drop i) = m := digs_unique 4 m _ (by omega) (fun q hq => by rw [← e1 q (by omega)]; exact a1 q hq) (fun hlt => by rw [← e1 m h4]; exact a2 hlt)
    unfold numP at h0
    rw [hs] at h0
    split at h0
    · rename_i hc
      rcases hc with hc | hc | hc
      · exact absurd hc h3
      · have := h.inS; rw [List.length_drop] at hc; omega
      · rw [if_pos (.inr (.inr (by rw [e1 m h4]; exact hc)))]
    · subst h0; split <;> rfl
  · obtain rfl : m = n := by omega
    rw [if_pos (.inr (.inr (by rw [e2]; decide)))]
theorem oper_two (c : UInt8) : pairP c 32 = false := by
  simp [pairP]
theorem oper_loc {s t : LB} {i j n : Nat} (h : Loc s t i j n) (hn : 0 < n) (ho : operP (s.drop i) = n ∨ operP (s.drop i) = 0) : operP (t.drop j) = operP (s.drop i) := by
  have c0 : (t.drop j).getD 0 0 = (s.drop i).getD 0 0 := by rw [dropD, dropD]; exact h.same 0 hn
  have c1 : 1 < n → (t.drop j).getD 1 0 = (s.drop i).getD 1 0 := fun h1 => by rw [dropD, dropD]; exact h.same 1 h1
  have c2 : n = 1 → (t.drop j).getD 1 0 = 32 := fun h1 => by subst h1; rw [dropD]; exact h.blank
  unfold operP at ho ⊢
  rw [c0]
  rcases Nat.lt_or_ge 1 n with h1 | h1
  · rw [c1 h1]
  · have hn1 : n = 1 := by omega
    rw [c2 hn1, oper_two]
    by_cases hp : pairP ((s.drop i).getD 0 0) ((s.drop i).getD 1 0) = true
    · rw [if_pos hp] at ho; omega
    · rw [if_neg hp]; simp
/-- A token's text, wherever it is written with a blank behind it, is scanned as that token. -/
def Good (k : Nat) (w : LB) : Prop := 0 < w.length ∧ ∀ (t : LB) (j : Nat), j + w.length < t.length → (∀ q, q < w.length → t.getD (j + q) 0 = w.getD q 0) → t.getD (j + w.length) 0 = 32 →
  NBl t j ∧ t.getD j 0 ≠ 10 ∧ ((k = 2 ∧ operP (t.drop j) = w.length) ∨ (k = 1 ∧ operP (t.drop j) = 0 ∧ numP (t.drop j) = 0 ∧ wordL t (t.length + 1) j = (j + w.length, true)))
theorem loc_of {s t : LB} {i j n : Nat} (hs : s.getD (s.length - 1) 0 ≠ 92) (hi : i + n ≤ s.length) (hj : j + n < t.length) (hq : ∀ q, q < n → t.getD (j + q) 0 = ((s.drop i).take n).getD q 0) (hb : t.getD (j + n) 0 = 32) : Loc s t i j n :=
  ⟨hi, hj, fun k hk => by rw [hq k hk, takeD _ _ _ hk, dropD], hb, fun h h0 => by rw [h]; exact hs⟩
theorem nbl_loc {s t : LB} {i j n : Nat} (h : Loc s t i j n) (hn : 0 < n) (hb : NBl s i) : NBl t j := by
  have c0 : t.getD j 0 = s.getD i 0 := h.same 0 hn
  refine ⟨by rw [c0]; exact hb.1, ?_, by rw [c0]; exact hb.2.2⟩
  rcases Nat.lt_or_ge 1 n with h1 | h1
  · rw [c0, h.same 1 h1]; exact hb.2.1
  · have : n = 1 := by omega
    subst this
    rw [h.blank]; exact fun hh => absurd hh.2 (by decide)
def GInv (st : S) : Prop := ∀ t ∈ st.toks, (t.kind = 1 ∨ t.kind = 2) → Good t.kind t.text
theorem tokenS_good {s : LB} (hs : s.getD (s.length - 1) 0 ≠ 92) {st : S} (hok : SOk s st) (hnb : NBl s st.at_) (hi : st.at_ < s.length) (hg : GInv st) (hb : (tokenS s st).2 = true) : GInv (tokenS s st).1 := by
  have ho := operP_le (s.drop st.at_)
  rw [List.length_drop] at ho
  unfold tokenS at hb ⊢
  by_cases h0 : s.getD st.at_ 0 = 10
  · rw [if_pos h0] at hb ⊢
    have hao := addS_ok (k := 4) hok (Nat.le_refl 1) (by omega : st.at_ + 1 ≤ s.length)
    unfold docsS at hb ⊢
    cases hd : docsL s (addS s st 4 1).wait (addS s st 4 1).at_ (addS s st 4 1).toks with
    | none => rw [hd] at hb; simp at hb
    | some x =>
      obtain ⟨j, us⟩ := x
      dsimp only
      have hk := docsL_keys s _ _ _ j us hao.2.2.2.2 hd
      intro t ht hkt
      have : key t ∈ us.map key := List.mem_map_of_mem ht
      rw [hk] at this
      obtain ⟨t', ht', e⟩ := List.mem_map.1 this
      have e1 : t'.kind = t.kind := congrArg (·.1) e
      have e2 : t'.text = t.text := congrArg (·.2.1) e
      simp only [addS, List.mem_append, List.mem_singleton] at ht'
      rcases ht' with ht' | ht'
      · have := hg t' ht' (by rw [e1]; exact hkt)
        rw [e1, e2] at this; exact this
      · rw [ht'] at e1; dsimp only at e1; omega
  rw [if_neg h0] at hb ⊢
  have add : ∀ (st' : S) (k n : Nat), st'.toks = st.toks → st'.at_ = st.at_ → ((k = 1 ∨ k = 2) → Good k ((s.drop st.at_).take n)) → GInv (addS s st' k n) := fun st' k n e1 e2 hG t ht hkt => by
    simp only [addS, List.mem_append, List.mem_singleton, e1, e2] at ht
    rcases ht with ht | rfl
    · exact hg t ht hkt
    · exact hG hkt
  by_cases h1 : 0 < operP (s.drop st.at_)
  · rw [if_pos h1]
    refine add st 2 _ rfl rfl fun _ => ?_
    have hl : ((s.drop st.at_).take (operP (s.drop st.at_))).length = operP (s.drop st.at_) := by rw [List.length_take, List.length_drop]; omega
    refine ⟨by omega, fun t j hj hq hbl => ?_⟩
    rw [hl] at hj hq hbl ⊢
    have hloc := loc_of hs (by omega : st.at_ + operP (s.drop st.at_) ≤ s.length) hj hq hbl
    refine ⟨nbl_loc hloc h1 hnb, ?_, .inl ⟨rfl, oper_loc hloc h1 (.inl rfl)⟩⟩
    have := hloc.same 0 h1
    rw [Nat.add_zero, Nat.add_zero] at this
    rw [this]; exact h0
  rw [if_neg h1] at hb ⊢
  by_cases h2 : 0 < numP (s.drop st.at_)
  · rw [if_pos h2]
    exact add st 3 _ rfl rfl (by simp)
  rw [if_neg h2] at hb ⊢
  have hwf := wordL_facts s (s.length + 1) st.at_ hok.1
  unfold wordS at hb ⊢
  simp only [] at hb ⊢
  obtain ⟨eb, hW⟩ : ∃ x, wordL s (s.length + 1) st.at_ = x := ⟨_, rfl⟩
  obtain ⟨e, b⟩ := eb
  rw [hW] at hb hwf ⊢
  dsimp only at hb hwf ⊢
  cases b with
  | false => simp at hb
  | true =>
    rw [if_neg (by decide)] at hb ⊢
    by_cases he : e = st.at_
    · rw [if_pos he] at hb; simp at hb
    · rw [if_neg he]
      have hge := hwf.2 rfl
      refine add { st with wait := if hereT st.toks = true then st.wait ++ [st.toks.length] else st.wait } 1 _ rfl rfl fun _ => ?_
      have hl : ((s.drop st.at_).take (e - st.at_)).length = e - st.at_ := by rw [List.length_take, List.length_drop]; omega
      refine ⟨by omega, fun t j hj hq hbl => ?_⟩
      rw [hl] at hj hq hbl ⊢
      have hloc := loc_of hs (by omega : st.at_ + (e - st.at_) ≤ s.length) hj hq hbl
      have hn : 0 < e - st.at_ := by omega
      refine ⟨nbl_loc hloc hn hnb, ?_, .inr ⟨rfl, ?_, num_loc hloc hn (by omega), ?_⟩⟩
      · have := hloc.same 0 hn
        rw [Nat.add_zero, Nat.add_zero] at this
        rw [this]; exact h0
      · have := oper_loc hloc hn (.inr (by omega))
        omega
      · exact word_loc hloc (s.length + 1) 0 (t.length + 1) (Nat.zero_le _) (by omega) (by omega) (by
        show wordL s (s.length + 1) st.at_ = _
        rw [hW, show st.at_ + (e - st.at_) = e by omega])
theorem scanL_good {s : LB} (hs : s.getD (s.length - 1) 0 ≠ 92) : ∀ (f : Nat) (st : S), SOk s st → (s.length ≤ st.at_ ∨ NBl s st.at_) → GInv st → ∀ t ∈ (scanL s f st).1, (t.kind = 1 ∨ t.kind = 2) → Good t.kind t.text
  | 0, st, ho, hn, hg, t, ht, hk => by simp [scanL] at ht
  | f + 1, st, ho, hn, hg, t, ht, hk => by
    unfold scanL at ht
    split at ht
    · split at ht
      · simp only [addS, List.mem_append, List.mem_singleton] at ht
        rcases ht with ht | rfl
        · exact hg t ht hk
        · simp at hk
      · simp at ht
    · rename_i h1
      split at ht
      · simp at ht
      · rename_i h2
        have hb : (tokenS s st).2 = true := by simpa using h2
        have hk2 := ((tokenS_ok ho (by omega)).1 hb).1
        have hnb : NBl s st.at_ := hn.resolve_left h1
        exact scanL_good hs f _ (blank_ok hk2) (blank_stop s _ _ (by omega)) (tokenS_good hs ho hnb (by omega) hg hb) t ht hk
theorem scanP_good {s : LB} (hs : s.getD (s.length - 1) 0 ≠ 92) : ∀ t ∈ (scanP s).1, (t.kind = 1 ∨ t.kind = 2) → Good t.kind t.text := by
  unfold scanP
  split
  · intro t ht; simp at ht
  · have hb := blankP_facts s 0 (Nat.zero_le _)
    exact scanL_good hs _ _ ⟨hb.2, Nat.zero_le _, Nat.zero_le _, Nat.le_refl _, by simp⟩ (blank_stop s _ 0 (by omega)) (fun t ht => by simp at ht)
end Go.Proofs.YtpfcfcbljkdkhaaDoor
