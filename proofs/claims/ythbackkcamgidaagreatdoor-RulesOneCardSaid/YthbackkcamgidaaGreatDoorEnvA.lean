/- Settings as plain lists: where a setting is cut, environments as sorted rows of settings. No program. -/
import Derived.Test.YthbackkcamgidaaGreatDoorEnvP
import Derived.Lib.IndexLaws
namespace Go.Proofs.YthbackkcamgidaaGreatDoor
open Go.RowKit
set_option linter.unusedVariables false
/-- Where the first '=' stands; the text's length where there is none. -/
def posE : LB → Nat
  | [] => 0
  | c :: r => if c = 61 then 0 else posE r + 1
theorem posE_le : ∀ s : LB, posE s ≤ s.length
  | [] => Nat.le_refl _
  | c :: r => by
    rw [posE]
    have := posE_le r
    split <;> simp <;> omega
theorem posE_ix : ∀ s : LB, Lib.indexByte s 61 = if posE s < s.length then (posE s : Int) else -1
  | [] => rfl
  | c :: r => by
    have ih := posE_ix r
    rw [Lib.indexByte, posE]
    by_cases h : c = 61
    · simp [h]
    · have hb : (c == 61) = false := beq_eq_false_iff_ne.2 h
      rw [hb, if_neg (by decide), if_neg h]
      by_cases h2 : posE r < r.length
      · have e : Lib.indexByte r 61 = (posE r : Int) := by rw [ih, if_pos h2]
        have e2 : ((posE r : Int) == -1) = false := beq_eq_false_iff_ne.2 (by omega)
        rw [e, e2, if_neg (by decide), if_pos (by simpa using h2)]
        simp
      · have e : Lib.indexByte r 61 = -1 := by rw [ih, if_neg h2]
        rw [e, if_pos (by decide), if_neg (by simpa using h2)]
theorem posE_ahead : ∀ (s : LB) (i : Nat) (c : UInt8), i < posE s → s[i]? = some c → c ≠ 61
  | [], i, c, h, _ => by simp [posE] at h
  | a :: r, i, c, h, hc => by
    rw [posE] at h
    by_cases h1 : a = 61
    · rw [if_pos h1] at h; omega
    · rw [if_neg h1] at h
      match i with
      | 0 => simp at hc; rw [← hc]; exact h1
      | i + 1 => exact posE_ahead r i c (by omega) (by simpa using hc)
theorem posE_at : ∀ (s : LB), posE s < s.length → s[posE s]? = some 61
  | [], h => by simp at h
  | a :: r, h => by
    rw [posE] at h ⊢
    by_cases h1 : a = 61
    · rw [if_pos h1]; simp [h1]
    · rw [if_neg h1] at h ⊢
      have := posE_at r (by simpa using h)
      simpa using this
theorem posE_mid (n v : LB) (h : ∀ c ∈ n, c ≠ 61) : posE (n ++ 61 :: v) = n.length := by
  induction n with
  | nil => simp [posE]
  | cons a r ih =>
    rw [List.cons_append, posE, if_neg (h a List.mem_cons_self), ih (fun c hc => h c (List.mem_cons_of_mem _ hc))]
    simp
abbrev St := LB × LB
def textS (p : St) : LB := p.1 ++ 61 :: p.2
def noZero (s : LB) : Bool := !(decide (0 ≤ Lib.indexByte s 0))
def settingP (s : LB) : Bool := decide (posE s < s.length) && (nameP (s.take (posE s)) && (decide (s.length ≤ 256) && noZero s))
def parseP (s : LB) : Option St := if settingP s = true then some (s.take (posE s), s.drop (posE s + 1)) else none
theorem noZero_iff (s : LB) : noZero s = true ↔ ∀ c ∈ s, c ≠ 0 := by
  unfold noZero
  have h1 := Lib.indexByte_ge s 0
  constructor
  · intro h c hc
    rintro rfl
    have h2 : Lib.indexByte s 0 = -1 := by
      simp at h; omega
    obtain ⟨k, hk, e⟩ := List.getElem_of_mem hc
    exact Lib.indexByte_none h2 k (by rw [List.getElem?_eq_getElem hk, e])
  · intro h
    simp only [Bool.not_eq_true', decide_eq_false_iff_not]
    by_cases h2 : 0 ≤ Lib.indexByte s 0
    · obtain ⟨o, ho⟩ : ∃ o : Nat, Lib.indexByte s 0 = o := ⟨(Lib.indexByte s 0).toNat, by omega⟩
      have h3 := (Lib.indexByte_some ho).1
      exact absurd rfl (h _ (List.mem_of_getElem? h3))
    · omega
theorem text_take (p : St) : (textS p).take p.1.length = p.1 := by simp [textS]
theorem text_drop (p : St) : (textS p).drop (p.1.length + 1) = p.2 := by
  unfold textS
  rw [List.drop_append]
  simp
theorem parse_text {s : LB} {p : St} (h : parseP s = some p) : textS p = s := by
  unfold parseP at h
  split at h
  · rename_i hs
    injection h with h
    subst h
    unfold settingP at hs
    rw [Bool.and_eq_true, decide_eq_true_eq] at hs
    have h1 := posE_at s hs.1
    obtain ⟨h2, h3⟩ := List.getElem?_eq_some_iff.1 h1
    unfold textS
    rw [← h3, List.getElem_cons_drop, List.take_append_drop]
  · cases h
theorem name_chars {n : LB} (h : nameP n = true) : ∀ c ∈ n, c ≠ 61 ∧ c ≠ 0 := by
  intro c hc
  rw [name_eq] at h
  simp only [Bool.and_eq_true, List.all_eq_true] at h
  have := h.1.2 c hc
  unfold okc at this
  constructor
  · rintro rfl; exact absurd this (by decide)
  · rintro rfl; exact absurd this (by decide)
theorem parse_mid {n v : LB} (hn : nameP n = true) (hv : noZero v = true) : parseP (n ++ 61 :: v) = if n.length + 1 + v.length ≤ 256 then some (n, v) else none := by
  have hp := posE_mid n v (fun c hc => (name_chars hn c hc).1)
  have hz : noZero (n ++ 61 :: v) = true := by
    refine (noZero_iff _).2 fun c hc => ?_
    rcases List.mem_append.1 hc with hc | hc
    · exact (name_chars hn c hc).2
    · rcases List.mem_cons.1 hc with rfl | hc
      · decide
      · exact (noZero_iff v).1 hv c hc
  unfold parseP settingP
  rw [hp, hz]
  have h1 : (n ++ 61 :: v).take n.length = n := by simp
  have h2 : (n ++ 61 :: v).drop (n.length + 1) = v := by rw [List.drop_append]; simp
  have h3 : (n ++ 61 :: v).length = n.length + 1 + v.length := by simp; omega
  rw [h1, h2, h3, hn]
  by_cases h : n.length + 1 + v.length ≤ 256
  · rw [if_pos h, if_pos]
    simp [h]; omega
  · rw [if_neg h, if_neg]
    simp [h]
theorem parse_name {s : LB} {p : St} (h : parseP s = some p) : nameP p.1 = true ∧ s.length ≤ 256 ∧ noZero s = true ∧ p.1 = s.take (posE s) ∧ p.2 = s.drop (posE s + 1) ∧ posE s < s.length := by
  unfold parseP at h
  split at h
  · rename_i hs
    injection h with h
    subst h
    unfold settingP at hs
    simp only [Bool.and_eq_true, decide_eq_true_eq] at hs
    exact ⟨hs.2.1, hs.2.2.1, hs.2.2.2, rfl, rfl, hs.1⟩
  · cases h
/-- A row of settings with rising names. -/
def sortedS (S : List St) : Prop := S.Pairwise fun p q => p.1 < q.1
def lookS (S : List St) (x : LB) : Option LB := (S.find? fun p => decide (p.1 = x)).map (·.2)
def insS (S : List St) (p : St) : List St := S.filter (fun q => decide (q.1 < p.1)) ++ [p] ++ S.filter (fun q => decide (p.1 < q.1))
def stepS (S : List St) (s : LB) : List St := match parseP s with
  | some p => insS S p
  | none => S
theorem stepS_some {s : LB} {p : St} (h : parseP s = some p) (S : List St) : stepS S s = insS S p := by unfold stepS; rw [h]
theorem stepS_none {s : LB} (h : parseP s = none) (S : List St) : stepS S s = S := by unfold stepS; rw [h]
def ofS (l : List LB) : List St := l.foldl stepS []
theorem ofS_snoc (l : List LB) (s : LB) : ofS (l ++ [s]) = stepS (ofS l) s := by unfold ofS; rw [List.foldl_append]; rfl
theorem ins_sorted {S : List St} (h : sortedS S) (p : St) : sortedS (insS S p) := by
  unfold insS sortedS at *
  rw [List.pairwise_append]
  refine ⟨?_, h.sublist List.filter_sublist, ?_⟩
  · rw [List.pairwise_append]
    refine ⟨h.sublist List.filter_sublist, List.pairwise_singleton _ _, fun x hx y hy => ?_⟩
    rw [List.mem_singleton] at hy
    subst hy
    simpa using (List.mem_filter.1 hx).2
  · intro x hx y hy
    have h2 : p.1 < y.1 := by simpa using (List.mem_filter.1 hy).2
    rcases List.mem_append.1 hx with hx | hx
    · exact blt_trans (by simpa using (List.mem_filter.1 hx).2) h2
    · rw [List.mem_singleton] at hx
      subst hx; exact h2
theorem step_sorted {S : List St} (h : sortedS S) (s : LB) : sortedS (stepS S s) := by
  unfold stepS
  cases parseP s with
  | none => exact h
  | some p => exact ins_sorted h p
theorem fold_sorted : ∀ (l : List LB) (S : List St), sortedS S → sortedS (l.foldl stepS S)
  | [], S, h => h
  | s :: l, S, h => fold_sorted l _ (step_sorted h s)
theorem ofS_sorted (l : List LB) : sortedS (ofS l) := fold_sorted l [] List.Pairwise.nil
theorem look_filter_none {S : List St} {x : LB} {f : St → Bool} (h : ∀ p, f p = true → p.1 ≠ x) : (S.filter f).find? (fun p => decide (p.1 = x)) = none := by
  refine List.find?_eq_none.2 fun p hp => ?_
  have := h p (List.mem_filter.1 hp).2
  simpa using this
theorem ins_look (S : List St) (p : St) (x : LB) : lookS (insS S p) x = if x = p.1 then some p.2 else lookS S x := by
  unfold lookS insS
  by_cases h : x = p.1
  · subst h
    rw [if_pos rfl, List.find?_append, List.find?_append, look_filter_none (fun q hq => blt_ne (by simpa using hq))]
    simp
  · rw [if_neg h, List.find?_append, List.find?_append]
    congr 1
    have hp : [p].find? (fun q => decide (q.1 = x)) = none := by
      rw [List.find?_eq_none]
      intro q hq
      rw [List.mem_singleton] at hq
      subst hq
      simpa using fun e => h e.symm
    rw [hp, Option.or_none]
    induction S with
    | nil => rfl
    | cons q r ih =>
      by_cases hq : q.1 = x
      · subst hq
        rw [List.find?_cons_of_pos (by simp)]
        rcases blt_tri q.1 p.1 with h1 | h1 | h1
        · rw [List.filter_cons_of_pos (by simpa using h1), List.find?_cons_of_pos (by simp)]; rfl
        · exact absurd h1 h
        · rw [List.filter_cons_of_neg (by simpa using blt_asymm h1), look_filter_none (f := fun q => decide (q.1 < p.1)) (S := r) (fun z hz e => ?_), Option.none_or, List.filter_cons_of_pos (by simpa using h1), List.find?_cons_of_pos (by simp)]
          rw [e] at hz
          exact blt_asymm h1 (by simpa using hz)
      · rw [List.find?_cons_of_neg (by simpa using hq), ← ih]
        congr 1
        · rw [List.filter_cons]
          split
          · rw [List.find?_cons_of_neg (by simpa using hq)]
          · rfl
        · rw [List.filter_cons]
          split
          · rw [List.find?_cons_of_neg (by simpa using hq)]
          · rfl
def ofP (l : List LB) : List LB := ((ofS l).take 32).map textS
end Go.Proofs.YthbackkcamgidaaGreatDoor
