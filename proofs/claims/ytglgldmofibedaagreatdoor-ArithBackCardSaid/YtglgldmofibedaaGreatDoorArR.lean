/- Plain mathematics of arith: the tokens of texts put together; the two laws on plain texts. -/
import Derived.Test.YtglgldmofibedaaGreatDoorArQ
namespace Go.Proofs.YtglgldmofibedaaGreatDoor
set_option linter.unusedVariables false

/- ---- what is wrong has a number ---- -/
def BB (f : Ev) : Prop := ∀ r z e, f r z = .bad e → e = 50 ∨ e = 51
theorem loopB_B (l : List Tok) {f : Ev} (h : BB f) : ∀ k n r z e, loopB l f k n r z = .bad e → e = 50 ∨ e = 51 := by
  intro k
  induction k with
  | zero => intro n r z e h; unfold loopB at h; injection h with h; exact .inl h.symm
  | succ k ih =>
    intro n r z e he
    unfold loopB at he
    split at he
    · cases hf : f r.tail z with
      | bad e' => rw [hf] at he; injection he with he; rw [← he]; exact h _ _ _ hf
      | ok m' r1 z1 => rw [hf] at he; exact ih _ _ _ _ he
    · exact absurd he (by simp)
theorem binB_B {f : Ev} (h : BB f) : ∀ ls, BB (binB ls f)
  | [] => h
  | l :: ls => by
    intro r z e he
    have ih := binB_B h ls
    unfold binB at he
    cases hb : binB ls f r z with
    | bad e' => rw [hb] at he; injection he with he; rw [← he]; exact ih _ _ _ hb
    | ok n1 r1 z1 => rw [hb] at he; exact loopB_B l ih _ _ _ _ _ he
theorem unF_B (vars : List Tok) {ex un : Ev} (he : BB ex) (hu : BB un) : BB (unF vars ex un) := by
  intro r z e h
  unfold unF at h
  split at h
  · injection h with h; exact .inl h.symm
  split at h
  · cases hf : un r.tail z with
    | bad e' => rw [hf] at h; injection h with h; rw [← h]; exact hu _ _ _ hf
    | ok m r1 z1 => rw [hf] at h; exact absurd h (by simp)
  split at h
  · cases hf : ex r.tail z with
    | bad e' => rw [hf] at h; injection h with h; rw [← h]; exact he _ _ _ hf
    | ok m r1 z1 =>
      rw [hf] at h
      dsimp only at h
      split at h
      · exact absurd h (by simp)
      · injection h with h; exact .inl h.symm
  split at h
  · exact absurd h (by simp)
  split at h
  · exact absurd h (by simp)
  · injection h with h; exact .inl h.symm
theorem exF_B {bi ex : Ev} (hb : BB bi) (he : BB ex) : BB (exF bi ex) := by
  intro r z e h
  unfold exF at h
  cases hf : bi r z with
  | bad e' => rw [hf] at h; injection h with h; rw [← h]; exact hb _ _ _ hf
  | ok n1 r1 z1 =>
    rw [hf] at h
    dsimp only at h
    split at h
    · cases hf2 : ex r1.tail z1 with
      | bad e' => rw [hf2] at h; injection h with h; rw [← h]; exact he _ _ _ hf2
      | ok n2 r2 z2 =>
        rw [hf2] at h
        dsimp only at h
        split at h
        · cases hf3 : ex r2.tail z2 with
          | bad e' => rw [hf3] at h; injection h with h; rw [← h]; exact he _ _ _ hf3
          | ok n3 r3 z3 => rw [hf3] at h; exact absurd h (by simp)
        · injection h with h; exact .inl h.symm
    · exact absurd h (by simp)
theorem EU_B (vars : List Tok) : ∀ k, BB (EU vars k).1 ∧ BB (EU vars k).2
  | 0 => ⟨fun _ _ e h => .inr (by injection h with h; exact h.symm), fun _ _ e h => .inr (by injection h with h; exact h.symm)⟩
  | k + 1 => by
    have ih := EU_B vars k
    have hu := unF_B vars ih.1 ih.2
    exact ⟨exF_B (binB_B hu lvls) ih.1, hu⟩

/- ---- tokens ---- -/
theorem starts_le : ∀ (s o : Tok), startsP s o = true → o.length ≤ s.length
  | s, [], _ => by simp
  | [], d :: o, h => by simp [startsP] at h
  | c :: r, d :: o, h => by
    unfold startsP at h
    simp only [Bool.and_eq_true] at h
    have := starts_le r o h.2
    simp; omega
theorem opLen_le (s : Tok) : ∀ l, opLen s l ≤ s.length
  | [] => by simp [opLen]
  | o :: l => by
    unfold opLen
    split
    · exact starts_le s o (by assumption)
    · exact opLen_le s l
theorem tokP_le (s : Tok) : tokP s ≤ s.length := by
  unfold tokP
  split
  · rename_i h
    have h2 : 2 ≤ s.length := by
      unfold isHex at h
      split at h
      · simp
      · exact absurd h (by simp)
    have := runP_le isH (s.drop 2)
    simp only [List.length_drop] at this
    omega
  · split
    · simp
    · split
      · exact runP_le _ _
      · split
        · exact runP_le _ _
        · exact opLen_le _ _
theorem toksF_fuel : ∀ n s, s.length ≤ n → ∀ k m, s.length < k → s.length < m → toksF k s = toksF m s := by
  intro n
  induction n with
  | zero =>
    intro s hs k m hk hm
    obtain ⟨k, rfl⟩ := Nat.exists_eq_add_one_of_ne_zero (show k ≠ 0 by omega)
    obtain ⟨m, rfl⟩ := Nat.exists_eq_add_one_of_ne_zero (show m ≠ 0 by omega)
    have : s = [] := List.length_eq_zero_iff.mp (by omega)
    subst this
    rfl
  | succ n ih =>
    intro s hs k m hk hm
    obtain ⟨k, rfl⟩ := Nat.exists_eq_add_one_of_ne_zero (show k ≠ 0 by omega)
    obtain ⟨m, rfl⟩ := Nat.exists_eq_add_one_of_ne_zero (show m ≠ 0 by omega)
    unfold toksF
    have h1 := trimP_le s
    by_cases h0 : trimP s = []
    · rw [if_pos h0, if_pos h0]
    rw [if_neg h0, if_neg h0]
    by_cases h2 : tokP (trimP s) = 0
    · rw [if_pos h2, if_pos h2]
    rw [if_neg h2, if_neg h2]
    have h3 : ((trimP s).drop (tokP (trimP s))).length < (trimP s).length := by
      have := List.length_pos_iff.mpr h0
      simp only [List.length_drop]; omega
    rw [ih _ (by omega) k m (by omega) (by omega)]
/-- All tokens of a text of any size. -/
def tk (s : Tok) : Option (List Tok) := toksF (s.length + 1) s
theorem tk_eq (s : Tok) : tk s = if trimP s = [] then some [] else if tokP (trimP s) = 0 then none
    else (tk ((trimP s).drop (tokP (trimP s)))).map ((trimP s).take (tokP (trimP s)) :: ·) := by
  have h1 := trimP_le s
  by_cases h0 : trimP s = []
  · unfold tk toksF; rw [if_pos h0, if_pos h0]
  by_cases h2 : tokP (trimP s) = 0
  · unfold tk toksF; rw [if_neg h0, if_neg h0, if_pos h2, if_pos h2]
  have h3 : ((trimP s).drop (tokP (trimP s))).length < (trimP s).length := by
    have := List.length_pos_iff.mpr h0
    simp only [List.length_drop]; omega
  unfold tk
  rw [toksF, if_neg h0, if_neg h0, if_neg h2, if_neg h2, toksF_fuel _ _ (Nat.le_refl _) s.length _ (by omega) (Nat.lt_succ_self _)]
theorem toksP_eq {s : Tok} (h : s.length ≤ 1000) : toksP s = tk s := by unfold toksP tk; rw [if_neg (by omega)]
theorem tk_blank (t : Tok) : tk (32 :: t) = tk t := by
  rw [tk_eq, tk_eq t, show trimP (32 :: t) = trimP t by rw [trimP, if_pos (by decide)]]
theorem tk_cons {s : Tok} {n : Nat} (ht : trimP s = s) (hs : s ≠ []) (hn : tokP s = n) (h0 : n ≠ 0) : tk s = (tk (s.drop n)).map (s.take n :: ·) := by
  rw [tk_eq, ht, hn, if_neg hs, if_neg h0]
/-- An operator at the beginning. -/
theorem tk_op (o : Tok) (t : Tok) (ht : trimP (o ++ t) = o ++ t) (h0 : o ≠ []) (hn : tokP (o ++ t) = o.length) : tk (o ++ t) = (tk t).map (o :: ·) := by
  have h := tk_cons (n := o.length) ht (by simp [h0]) hn (by simp [h0])
  rw [h]; simp
theorem tk_open (t : Tok) : tk (40 :: t) = (tk t).map ([40] :: ·) := tk_op [40] t (by rw [List.cons_append, trimP, if_neg (by decide)]) (by simp) (by
  rw [List.cons_append, tokP]
  rw [if_neg (by cases t with | nil => decide | cons a l => cases l <;> simp [isHex])]
  simp [opsP, opLen, startsP, isD, isL])
theorem tk_minus (t : Tok) : tk (45 :: t) = (tk t).map ([45] :: ·) := tk_op [45] t (by rw [List.cons_append, trimP, if_neg (by decide)]) (by simp) (by
  rw [List.cons_append, tokP]
  rw [if_neg (by cases t with | nil => decide | cons a l => cases l <;> simp [isHex])]
  simp [opsP, opLen, startsP, isD, isL])
theorem tk_shut (t : Tok) : tk (41 :: t) = (tk t).map ([41] :: ·) := tk_op [41] t (by rw [List.cons_append, trimP, if_neg (by decide)]) (by simp) (by
  rw [List.cons_append, tokP]
  rw [if_neg (by cases t with | nil => decide | cons a l => cases l <;> simp [isHex])]
  simp [opsP, opLen, startsP, isD, isL])
theorem tk_nil : tk [] = some [] := rfl

/- ---- a bracket behind a text ---- -/
theorem run_shut {k : UInt8 → Bool} (h : k 41 = false) : ∀ x, runP k (x ++ [41]) = runP k x
  | [] => by simp [runP, h]
  | c :: r => by rw [List.cons_append, runP, runP, run_shut h r]
theorem starts_shut : ∀ (x o : Tok), 41 ∉ o → startsP (x ++ [41]) o = startsP x o
  | x, [], _ => by cases x <;> simp [startsP]
  | [], d :: o, h => by
    simp only [List.mem_cons, not_or] at h
    simp only [List.nil_append, startsP, Bool.and_eq_false_iff, beq_eq_false_iff_ne]
    exact .inl h.1
  | c :: r, d :: o, h => by
    simp only [List.mem_cons, not_or] at h
    rw [List.cons_append, startsP, startsP, starts_shut r o h.2]
theorem opLen_shut (x : Tok) (hx : x ≠ []) : ∀ l, (∀ o ∈ l, 41 ∉ o ∨ o = [41]) → opLen (x ++ [41]) l = opLen x l
  | [], _ => rfl
  | o :: l, h => by
    rw [opLen, opLen, opLen_shut x hx l (fun y hy => h y (by simp [hy]))]
    rcases h o (by simp) with h1 | rfl
    · rw [starts_shut x o h1]
    · cases x with
      | nil => exact absurd rfl hx
      | cons c r => simp [startsP]
theorem hex_shut (x : Tok) : isHex (x ++ [41]) = isHex x := by
  match x with
  | [] => rfl
  | [a] => rfl
  | [a, b] => simp [isHex, show isH 41 = false by decide]
  | a :: b :: c :: r => rfl
theorem tok_shut (x : Tok) (hx : x ≠ []) : tokP (x ++ [41]) = tokP x := by
  cases x with
  | nil => exact absurd rfl hx
  | cons c r =>
    unfold tokP
    rw [hex_shut]
    by_cases h : isHex (c :: r) = true
    · rw [if_pos h, if_pos h]
      have h2 : 2 ≤ (c :: r).length := by
        cases r with
        | nil => simp [isHex] at h
        | cons b r' => simp
      rw [List.drop_append_of_le_length h2, run_shut (by decide)]
    · rw [if_neg h, if_neg h, List.cons_append]
      dsimp only
      rw [← List.cons_append, run_shut (by decide), run_shut (by decide), opLen_shut _ (by simp) _ (by decide)]
theorem trim_shut : ∀ s, trimP (s ++ [41]) = trimP s ++ [41]
  | [] => rfl
  | c :: r => by rw [List.cons_append, trimP, trimP, trim_shut r]; split <;> rfl
theorem tk_close : ∀ n s, s.length ≤ n → ∀ ts, tk s = some ts → tk (s ++ [41]) = some (ts ++ [[41]]) := by
  intro n
  induction n with
  | zero =>
    intro s hs ts h
    have : s = [] := List.length_eq_zero_iff.mp (by omega)
    subst this
    rw [tk_nil] at h
    injection h with h
    rw [← h]; rfl
  | succ n ih =>
    intro s hs ts h
    have h1 := trimP_le s
    rw [tk_eq] at h
    rw [tk_eq, trim_shut, if_neg (by simp)]
    by_cases h0 : trimP s = []
    · rw [if_pos h0] at h
      injection h with h
      rw [h0, ← h]; rfl
    rw [if_neg h0] at h
    rw [tok_shut _ h0]
    by_cases h2 : tokP (trimP s) = 0
    · rw [if_pos h2] at h; exact absurd h (by simp)
    rw [if_neg h2] at h ⊢
    have h4 := tokP_le (trimP s)
    rw [List.drop_append_of_le_length h4, List.take_append_of_le_length h4]
    have h3 : ((trimP s).drop (tokP (trimP s))).length < (trimP s).length := by
      have := List.length_pos_iff.mpr h0
      simp only [List.length_drop]; omega
    cases hk : tk ((trimP s).drop (tokP (trimP s))) with
    | none => rw [hk] at h; exact absurd h (by simp)
    | some tr =>
      rw [hk] at h
      rw [ih _ (by omega) tr hk]
      simp only [Option.map_some, Option.some.injEq] at h ⊢
      rw [← h]; rfl

/-- The law of brackets on plain texts. -/
theorem brackets_plain (s : Tok) (vars : List Tok) (hs : s.length ≤ 300) :
    (toksP s).getD [] = [] ∨ (evalP s vars).2 = 50 ∨ (evalP s vars).2 = 51 ∨ (evalP ([40] ++ s ++ [41]) vars).2 = 51 ∨ (evalP ([45, 32, 45, 40] ++ s ++ [41]) vars).2 = 51 ∨
    (evalP ([40] ++ s ++ [41]) vars = evalP s vars ∧ evalP ([45, 32, 45, 40] ++ s ++ [41]) vars = evalP s vars) := by
  have e1 : toksP s = tk s := toksP_eq (by omega)
  cases ht : tk s with
  | none => refine .inr (.inl ?_); unfold evalP; rw [e1, ht]
  | some ts =>
    by_cases h0 : ts = []
    · refine .inl ?_; rw [e1, ht, h0]; rfl
    have hc := tk_close _ s (Nat.le_refl _) ts ht
    have e2 : toksP ([40] ++ s ++ [41]) = some ([40] :: ts ++ [[41]]) := by
      rw [toksP_eq (by simp; omega)]
      rw [show ([40] ++ s ++ [41] : Tok) = 40 :: (s ++ [41]) by simp, tk_open, hc]; rfl
    have e3 : toksP ([45, 32, 45, 40] ++ s ++ [41]) = some ([45] :: [45] :: [40] :: ts ++ [[41]]) := by
      rw [toksP_eq (by simp; omega)]
      rw [show ([45, 32, 45, 40] ++ s ++ [41] : Tok) = 45 :: 32 :: 45 :: 40 :: (s ++ [41]) by simp, tk_minus, tk_blank, tk_minus, tk_open, hc]; rfl
    have f1 : evalP s vars = endP ((EU vars 40).1 ts false) := by unfold evalP; rw [e1, ht]; dsimp only; rw [if_neg h0]
    have f2 : evalP ([40] ++ s ++ [41]) vars = endP ((EU vars 40).1 ([40] :: ts ++ [[41]]) false) := by unfold evalP; rw [e2]; dsimp only; rw [if_neg (by simp)]
    have f3 : evalP ([45, 32, 45, 40] ++ s ++ [41]) vars = endP ((EU vars 40).1 ([45] :: [45] :: [40] :: ts ++ [[41]]) false) := by unfold evalP; rw [e3]; dsimp only; rw [if_neg (by simp)]
    cases hE : (EU vars 40).1 ts false with
    | bad e =>
      rcases (EU_B vars 40).1 _ _ _ hE with rfl | rfl
      · exact .inr (.inl (by rw [f1, hE]; rfl))
      · exact .inr (.inr (.inl (by rw [f1, hE]; rfl)))
    | ok n r z =>
      by_cases hr : r = []
      · subst hr
        have hb := brackets_toks vars ts n z hE
        rcases hb.1 with b1 | b1
        · exact .inr (.inr (.inr (.inl (by rw [f2, b1]; rfl))))
        rcases hb.2 with b2 | b2
        · exact .inr (.inr (.inr (.inr (.inl (by rw [f3, b2]; rfl)))))
        exact .inr (.inr (.inr (.inr (.inr ⟨by rw [f2, f1, b1, hE], by rw [f3, f1, b2, hE]⟩))))
      · exact .inr (.inl (by rw [f1, hE]; unfold endP; dsimp only; rw [if_neg hr]))
end Go.Proofs.YtglgldmofibedaaGreatDoor
