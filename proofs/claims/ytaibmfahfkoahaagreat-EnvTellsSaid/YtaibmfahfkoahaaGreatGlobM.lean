/- Matching a list of elements: what it is, and why trying the last star again suffices. No program in it. -/
namespace Go.Proofs.YtaibmfahfkoahaaGreat
set_option linter.unusedVariables false
section
variable {α : Type}
def starM (f : List α → Bool) : List α → Bool
  | [] => f []
  | x :: t => f (x :: t) || starM f t
def M : List (Bool × (α → Bool)) → List α → Bool
  | [], l => l.isEmpty
  | e :: es, l => if e.1 = true then starM (M es) l else match l with
    | [] => false
    | x :: t => e.2 x && M es t
theorem starM_iff (f : List α → Bool) : ∀ l : List α, starM f l = true ↔ ∃ j, f (l.drop j) = true
  | [] => by
    constructor
    · intro h; exact ⟨0, h⟩
    · rintro ⟨j, h⟩; simpa [starM] using h
  | x :: t => by
    unfold starM
    rw [Bool.or_eq_true, starM_iff f t]
    constructor
    · rintro (h | ⟨j, h⟩)
      · exact ⟨0, h⟩
      · exact ⟨j + 1, by simpa using h⟩
    · rintro ⟨j, h⟩
      cases j with
      | zero => exact .inl h
      | succ j => exact .inr ⟨j, by simpa using h⟩
theorem M_many (e : Bool × (α → Bool)) (es : List (Bool × (α → Bool))) (l : List α) (h : e.1 = true) : M (e :: es) l = starM (M es) l := by
  rw [M.eq_def]; simp [h]
theorem M_one (e : Bool × (α → Bool)) (es : List (Bool × (α → Bool))) (x : α) (l : List α) (h : e.1 = false) : M (e :: es) (x :: l) = (e.2 x && M es l) := by
  rw [M.eq_def]; simp [h]
theorem M_none (e : Bool × (α → Bool)) (es : List (Bool × (α → Bool))) (h : e.1 = false) : M (e :: es) [] = false := by
  rw [M.eq_def]; simp [h]
variable (es : List (Bool × (α → Bool))) (it : List α)
/-- What is left of both matches. -/
def D (k i : Nat) : Bool := M (es.drop k) (it.drop i)
theorem D_many {k i : Nat} (h : k < es.length) (hm : es[k].1 = true) : D es it k i = starM (M (es.drop (k + 1))) (it.drop i) := by
  unfold D
  rw [List.drop_eq_getElem_cons h, M_many _ _ _ hm]
theorem D_many_iff {k i : Nat} (h : k < es.length) (hm : es[k].1 = true) : D es it k i = true ↔ ∃ j, i ≤ j ∧ D es it (k + 1) j = true := by
  rw [D_many es it h hm, starM_iff]
  constructor
  · rintro ⟨j, hj⟩
    have e : it.drop (i + j) = (it.drop i).drop j := by rw [List.drop_drop]
    exact ⟨i + j, by omega, by unfold D; rw [e]; exact hj⟩
  · rintro ⟨j, hij, hj⟩
    refine ⟨j - i, ?_⟩
    rw [List.drop_drop, Nat.add_sub_cancel' hij]
    exact hj
theorem D_one {k i : Nat} (h : k < es.length) (hm : es[k].1 = false) (hi : i < it.length) : D es it k i = (es[k].2 it[i] && D es it (k + 1) (i + 1)) := by
  unfold D
  rw [List.drop_eq_getElem_cons h, List.drop_eq_getElem_cons hi, M_one _ _ _ _ hm]
theorem D_none {k i : Nat} (h : k < es.length) (hm : es[k].1 = false) (hi : it.length ≤ i) : D es it k i = false := by
  unfold D
  rw [List.drop_eq_getElem_cons h, List.drop_of_length_le hi, M_none _ _ hm]
theorem D_end {k i : Nat} (h : es.length ≤ k) (hi : i < it.length) : D es it k i = false := by
  unfold D
  rw [List.drop_of_length_le h, List.drop_eq_getElem_cons hi, M]
  rfl
theorem D_done {k i : Nat} (h : es.length ≤ k) (hi : it.length ≤ i) : D es it k i = true := by
  unfold D
  rw [List.drop_of_length_le h, List.drop_of_length_le hi, M]
  rfl
theorem D_past {k i j : Nat} (hi : it.length ≤ i) (hj : it.length ≤ j) : D es it k i = D es it k j := by
  unfold D
  rw [List.drop_of_length_le hi, List.drop_of_length_le hj]
theorem D_many_past {k i : Nat} (h : k < es.length) (hm : es[k].1 = true) (hi : it.length ≤ i) : D es it k i = D es it (k + 1) i := by
  rw [D_many es it h hm]
  unfold D
  rw [List.drop_of_length_le hi]
  rfl
/-- Where the greedy matching stands: without a star, or with the last one at s, of which so much was taken. -/
def GInv (out : Bool) (s : Option Nat) (at_ item taken : Nat) : Prop := match s with
  | none => D es it at_ item = out
  | some s => ∃ h : s < es.length, es[s].1 = true ∧ s + 1 ≤ at_ ∧ item = taken + (at_ - (s + 1)) ∧ D es it s taken = out ∧ D es it (s + 1) taken = D es it at_ item ∧ ∀ i, D es it (s + 1) i = true → D es it at_ (i + (at_ - (s + 1))) = true
variable {es it}
theorem GInv.start : GInv es it (M es it) none 0 0 0 := rfl
theorem GInv.star {out : Bool} {s : Option Nat} {at_ item taken : Nat} (h : GInv es it out s at_ item taken) (ha : at_ < es.length) (hm : es[at_].1 = true) : GInv es it out (some at_) (at_ + 1) item item := by
  refine ⟨ha, hm, Nat.le_refl _, by omega, ?_, rfl, fun i hi => by simpa using hi⟩
  cases s with
  | none => exact h
  | some s =>
    obtain ⟨hs, hsm, hsa, hit, ho, h1, h2⟩ := h
    rw [← ho, Bool.eq_iff_iff]
    constructor
    · intro hd
      rw [← h1] at hd
      exact (D_many_iff es it hs hsm).2 ⟨taken, Nat.le_refl _, hd⟩
    · intro hd
      obtain ⟨j, hj, hd⟩ := (D_many_iff es it hs hsm).1 hd
      obtain ⟨j', hj', hd'⟩ := (D_many_iff es it ha hm).1 (h2 j hd)
      exact (D_many_iff es it ha hm).2 ⟨j', by omega, hd'⟩
theorem GInv.fit {out : Bool} {s : Option Nat} {at_ item taken : Nat} (h : GInv es it out s at_ item taken) (ha : at_ < es.length) (hm : es[at_].1 = false) (hi : item < it.length) (hf : es[at_].2 it[item] = true) : GInv es it out s (at_ + 1) (item + 1) taken := by
  have h0 : D es it at_ item = D es it (at_ + 1) (item + 1) := by rw [D_one es it ha hm hi, hf]; simp
  cases s with
  | none =>
    show D es it (at_ + 1) (item + 1) = out
    rw [← h0]; exact h
  | some s =>
    obtain ⟨hs, hsm, hsa, hit, ho, h1, h2⟩ := h
    refine ⟨hs, hsm, by omega, by omega, ho, by rw [h1, h0], fun i hd => ?_⟩
    have h3 := h2 i hd
    rcases Nat.lt_or_ge (i + (at_ - (s + 1))) it.length with hl | hl
    · rw [D_one es it ha hm hl, Bool.and_eq_true] at h3
      have e : i + (at_ - (s + 1)) + 1 = i + (at_ + 1 - (s + 1)) := by omega
      rw [e] at h3
      exact h3.2
    · rw [D_none es it ha hm hl] at h3; cases h3
/-- The element does not fit what comes, or there is none. -/
def Misses (es : List (Bool × (α → Bool))) (it : List α) (at_ item : Nat) : Prop := D es it at_ item = false
theorem misses_end {at_ item : Nat} (ha : es.length ≤ at_) (hi : item < it.length) : Misses es it at_ item := D_end es it ha hi
theorem misses_fit {at_ item : Nat} (ha : at_ < es.length) (hm : es[at_].1 = false) (hi : item < it.length) (hf : es[at_].2 it[item] = false) : Misses es it at_ item := by
  unfold Misses
  rw [D_one es it ha hm hi, hf]; rfl
theorem GInv.back {out : Bool} {s at_ item taken : Nat} (h : GInv es it out (some s) at_ item taken) (hi : item < it.length) (hx : Misses es it at_ item) : GInv es it out (some s) (s + 1) (taken + 1) (taken + 1) := by
  obtain ⟨hs, hsm, hsa, hit, ho, h1, h2⟩ := h
  refine ⟨hs, hsm, Nat.le_refl _, by omega, ?_, rfl, fun i hi => by simpa using hi⟩
  unfold Misses at hx
  rw [hx] at h1
  rw [← ho, Bool.eq_iff_iff, D_many_iff es it hs hsm, D_many_iff es it hs hsm]
  constructor
  · rintro ⟨j, hj, hd⟩
    exact ⟨j, by omega, hd⟩
  · rintro ⟨j, hj, hd⟩
    rcases Nat.lt_or_ge taken j with h3 | h3
    · exact ⟨j, by omega, hd⟩
    · obtain rfl : j = taken := by omega
      rw [h1] at hd; cases hd
theorem GInv.lost {out : Bool} {at_ item taken : Nat} (h : GInv es it out none at_ item taken) (hx : Misses es it at_ item) : out = false := by
  unfold Misses at hx
  rw [← hx]; exact h.symm
theorem GInv.over {out : Bool} {s : Option Nat} {at_ item taken : Nat} (h : GInv es it out s at_ item taken) (hi : item = it.length) : D es it at_ it.length = out := by
  subst hi
  cases s with
  | none => exact h
  | some s =>
    obtain ⟨hs, hsm, hsa, hit, ho, h1, h2⟩ := h
    rw [← ho, Bool.eq_iff_iff]
    constructor
    · intro hd
      rw [← h1] at hd
      exact (D_many_iff es it hs hsm).2 ⟨taken, Nat.le_refl _, hd⟩
    · intro hd
      obtain ⟨j, hj, hd⟩ := (D_many_iff es it hs hsm).1 hd
      have := h2 j hd
      rw [D_past es it (j := it.length) (by omega) (Nat.le_refl _)] at this
      exact this
theorem GInv.taken_le {out : Bool} {s at_ item taken : Nat} (h : GInv es it out (some s) at_ item taken) : s < es.length ∧ s + 1 ≤ at_ ∧ taken ≤ item ∧ item = taken + (at_ - (s + 1)) := by
  obtain ⟨hs, hsm, hsa, hit, ho, h1, h2⟩ := h
  exact ⟨hs, hsa, by omega, hit⟩
end
end Go.Proofs.YtaibmfahfkoahaaGreat
