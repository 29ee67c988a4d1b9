/- Numbered lines; what the reader has after some of them. No program in it. -/
import Derived.Test.YthbackkcamgidaaGreatDoorRuLn
namespace Go.Proofs.YthbackkcamgidaaGreatDoor
open Go Go.RowKit
set_option linter.unusedVariables false
/-- The lines with words, and their numbers. -/
def numR : Nat → List (List LB) → List (Int × List LB)
  | _, [] => []
  | k, w :: r => if w = [] then numR (k + 1) r else (((k + 1 : Nat) : Int), w) :: numR (k + 1) r
def afterU : PL × Bool → List (Int × List LB) → Option (PL × Bool)
  | st, [] => some st
  | st, x :: r => match lineU st.1 st.2 x.2 with
    | none => none
    | some q => afterU (q, false) r
theorem after_snoc : ∀ (l : List (Int × List LB)) (st st' : PL × Bool) (x : Int × List LB), afterU st l = some st' → afterU st (l ++ [x]) = match lineU st'.1 st'.2 x.2 with | none => none | some q => some (q, false)
  | [], st, st', x, h => by
    unfold afterU at h
    injection h with h
    subst h
    show afterU st [x] = _
    unfold afterU
    cases lineU st.1 st.2 x.2 <;> rfl
  | y :: l, st, st', x, h => by
    rw [List.cons_append]
    unfold afterU at h ⊢
    cases hq : lineU st.1 st.2 y.2 with
    | none => rw [hq] at h; cases h
    | some q => rw [hq] at h; exact after_snoc l _ _ x h
theorem numR_snoc : ∀ (l : List (List LB)) (k : Nat) (w : List LB), numR k (l ++ [w]) = numR k l ++ (if w = [] then [] else [(((k + l.length + 1 : Nat) : Int), w)])
  | [], k, w => by
    show numR k [w] = _
    unfold numR
    by_cases h : w = []
    · rw [if_pos h, if_pos h]; rfl
    · rw [if_neg h, if_neg h]; rfl
  | x :: l, k, w => by
    rw [List.cons_append]
    unfold numR
    have ih := numR_snoc l (k + 1) w
    have e : k + 1 + l.length + 1 = k + (x :: l).length + 1 := by simp; omega
    rw [e] at ih
    by_cases h : x = []
    · rw [if_pos h, if_pos h, ih]
    · rw [if_neg h, if_neg h, ih]; rfl
theorem numR_cons (x : List LB) (l : List (List LB)) (k : Nat) : numR k (x :: l) = if x = [] then numR (k + 1) l else (((k + 1 : Nat) : Int), x) :: numR (k + 1) l := rfl
theorem numR_app : ∀ (l : List (List LB)) (k : Nat) (r : List (List LB)), numR k (l ++ r) = numR k l ++ numR (k + l.length) r
  | [], k, r => by rfl
  | x :: l, k, r => by
    have ih := numR_app l (k + 1) r
    have e : k + 1 + l.length = k + (x :: l).length := by simp; omega
    rw [e] at ih
    rw [List.cons_append, numR_cons, numR_cons, ih]
    by_cases h : x = []
    · rw [if_pos h, if_pos h]
    · rw [if_neg h, if_neg h]; rfl
theorem numR_mem : ∀ (l : List (List LB)) (k : Nat) (x : Int × List LB), x ∈ numR k l → x.2 ≠ [] ∧ x.2 ∈ l
  | [], k, x, h => by cases h
  | w :: l, k, x, h => by
    unfold numR at h
    by_cases hw : w = []
    · rw [if_pos hw] at h
      obtain ⟨h1, h2⟩ := numR_mem l _ _ h
      exact ⟨h1, List.mem_cons_of_mem _ h2⟩
    · rw [if_neg hw] at h
      rcases List.mem_cons.1 h with rfl | h
      · exact ⟨hw, List.mem_cons_self⟩
      · obtain ⟨h1, h2⟩ := numR_mem l _ _ h
        exact ⟨h1, List.mem_cons_of_mem _ h2⟩
theorem run_ok : ∀ (rows : List (List LB)) (k : Nat) (p : PL) (f : Bool) (st : PL × Bool), afterU (p, f) (numR k rows) = some st → runU k p f rows = (st.1, 0)
  | [], k, p, f, st, h => by
    unfold numR afterU at h
    injection h with h
    subst h
    rw [runU]
  | w :: r, k, p, f, st, h => by
    unfold numR at h
    rw [runU]
    by_cases hw : w = []
    · rw [if_pos hw] at h ⊢
      exact run_ok r _ _ _ _ h
    · rw [if_neg hw] at h ⊢
      unfold afterU at h
      dsimp only at h
      cases hq : lineU p f w with
      | none => rw [hq] at h; cases h
      | some q => rw [hq] at h; exact run_ok r _ _ _ _ h
theorem run_bad : ∀ (rows : List (List LB)) (k : Nat) (p : PL) (f : Bool) (l : List (Int × List LB)) (x : Int × List LB) (st : PL × Bool), (l ++ [x]) <+: numR k rows → afterU (p, f) l = some st → lineU st.1 st.2 x.2 = none →
    (runU k p f rows).1 = pz ∧ ((runU k p f rows).2 : Int) = x.1
  | [], k, p, f, l, x, st, h, _, _ => by
    unfold numR at h
    have := h.length_le
    simp at this
  | w :: r, k, p, f, l, x, st, h, ha, hn => by
    unfold numR at h
    rw [runU]
    by_cases hw : w = []
    · rw [if_pos hw] at h ⊢
      exact run_bad r _ _ _ _ _ _ h ha hn
    · rw [if_neg hw] at h ⊢
      cases l with
      | nil =>
        rw [List.nil_append, List.cons_prefix_cons] at h
        obtain ⟨rfl, _⟩ := h
        unfold afterU at ha
        injection ha with ha
        subst ha
        rw [hn]
        exact ⟨rfl, rfl⟩
      | cons y l =>
        rw [List.cons_append, List.cons_prefix_cons] at h
        obtain ⟨rfl, h⟩ := h
        unfold afterU at ha
        dsimp only at ha
        cases hq : lineU p f w with
        | none => rw [hq] at ha; cases ha
        | some q =>
          rw [hq] at ha
          exact run_bad r _ _ _ _ _ _ h ha hn
theorem after_len : ∀ (l : List (Int × List LB)) (st st' : PL × Bool), afterU st l = some st' → st.1.rules.length ≤ 64 → st.1.env.length ≤ 64 → st'.1.rules.length ≤ 64 ∧ st'.1.env.length ≤ 64
  | [], st, st', h, h1, h2 => by unfold afterU at h; injection h with h; subst h; exact ⟨h1, h2⟩
  | x :: l, st, st', h, h1, h2 => by
    unfold afterU at h
    cases hq : lineU st.1 st.2 x.2 with
    | none => rw [hq] at h; cases h
    | some q =>
      rw [hq] at h
      obtain ⟨h3, h4⟩ := lineU_len hq h1 h2
      exact after_len l _ _ h h3 h4
/-- Every line is of a bounded length. -/
def Lines (s : LB) : Prop := ∀ l ∈ linesU s, l.length ≤ 90000
theorem words_bound {l : LB} (h : l.length ≤ 90000) : (wordsU l).length ≤ 90000 ∧ ∀ w ∈ wordsU l, w.length ≤ 90000 := by
  have h1 := fA_len l []
  have h2 : ∀ ks : List LB, (∀ k ∈ ks, k ≠ []) → ks.length ≤ (ks.map List.length).sum ∧ ∀ k ∈ ks, k.length ≤ (ks.map List.length).sum := by
    intro ks
    induction ks with
    | nil => intro _; simp
    | cons x r ih =>
      intro hk
      obtain ⟨h3, h5⟩ := ih fun k hk' => hk k (List.mem_cons_of_mem _ hk')
      have h4 := List.length_pos_iff.2 (hk x List.mem_cons_self)
      refine ⟨by simp; omega, fun k hk' => ?_⟩
      rcases List.mem_cons.1 hk' with rfl | hk'
      · simp
      · have := h5 k hk'; simp; omega
  obtain ⟨h3, h4⟩ := h2 (fA [] l) (fun k hk => (fA_mem l [] (by simp) k hk).1)
  simp at h1
  refine ⟨?_, fun w hw => ?_⟩
  · have := (List.takeWhile_sublist (fun w => !hsh w) (l := fA [] l)).length_le
    unfold wordsU; omega
  · have := h4 w (takeWhile_mem hw).1; omega
theorem numR_bound {s : LB} (h : Lines s) {x : Int × List LB} (hx : x ∈ numR 0 (rowsU s)) : x.2 ≠ [] ∧ x.2.length ≤ 90000 ∧ ∀ w ∈ x.2, w.length ≤ 90000 := by
  obtain ⟨h1, h2⟩ := numR_mem _ _ _ hx
  obtain ⟨l, hl, e⟩ := List.mem_map.1 h2
  have := words_bound (h l hl)
  rw [e] at this
  exact ⟨h1, this⟩
end Go.Proofs.YthbackkcamgidaaGreatDoor
