/- Environments as plain lists: read, Set, Unset. No program. -/
import Derived.Test.YtaibmfahfkoahaaGreatEnvR
namespace Go.Proofs.YtaibmfahfkoahaaGreat
open Go.RowKit
set_option linter.unusedVariables false
theorem pairAt_text {P : List St} (hp : ∀ p ∈ P, parseP (textS p) = some p) {i : Nat} {p : St} (h : P[i]? = some p) : pairAt (P.map textS) i = some p := by
  unfold pairAt
  rw [List.getElem?_map, h]
  exact hp p (List.mem_of_getElem? h)
theorem chk_texts {P : List St} (h : sortedS P) (hp : ∀ p ∈ P, parseP (textS p) = some p) (hl : P.length ≤ 32) : envChk (P.map textS) = true := by
  unfold envChk
  rw [Bool.and_eq_true, decide_eq_true_eq, List.all_eq_true, List.length_map]
  refine ⟨hl, fun i hi => ?_⟩
  have hi : i < P.length := by simpa using hi
  have e := pairAt_text hp (List.getElem?_eq_getElem hi)
  unfold okE
  rw [e]
  by_cases h0 : i = 0
  · rw [decide_eq_true h0]; rfl
  · have e2 := pairAt_text hp (List.getElem?_eq_getElem (show i - 1 < P.length by omega))
    unfold keyE
    rw [e, e2, bytesLess_eq]
    have := List.pairwise_iff_getElem.1 h (i - 1) i (by omega) hi (by omega)
    simp only [Option.getD_some, Option.isSome_some, Bool.true_and, Bool.or_eq_true, decide_eq_true_eq]
    exact .inr this
theorem get_texts {P : List St} (h : sortedS P) (hp : ∀ p ∈ P, parseP (textS p) = some p) (hl : P.length ≤ 32) (nm : LB) : getE (P.map textS) nm = lookS P nm := by
  unfold getE
  rw [if_pos (chk_texts h hp hl)]
  unfold lookS
  clear h hl
  induction P with
  | nil => rfl
  | cons p P ih =>
    have hh : hitE nm (textS p) = if p.1 = nm then some p.2 else none := by unfold hitE; rw [hp p List.mem_cons_self]; rfl
    rw [List.map_cons, List.findSome?_cons, hh]
    by_cases he : p.1 = nm
    · rw [if_pos he, List.find?_cons_of_pos (by simpa using he)]; rfl
    · rw [if_neg he, List.find?_cons_of_neg (by simpa using he)]
      exact ih (fun q hq => hp q (List.mem_cons_of_mem _ hq))
/-- The settings of a row of texts. -/
def pairsOf (l : List LB) : List St := l.filterMap parseP
theorem pairs_of {l : List LB} (h : envChk l = true) : (pairsOf l).map textS = l ∧ sortedS (pairsOf l) ∧ Good (pairsOf l) ∧ (pairsOf l).length = l.length ∧ l.length ≤ 32 := by
  have hall : ∀ i, (hi : i < l.length) → okE l i = true := fun i hi => by
    unfold envChk at h
    rw [Bool.and_eq_true, List.all_eq_true] at h
    exact h.2 i (by simpa using hi)
  have h32 : l.length ≤ 32 := by
    unfold envChk at h
    rw [Bool.and_eq_true, decide_eq_true_eq] at h
    exact h.1
  have hsome : ∀ s ∈ l, (parseP s).isSome = true := fun s hs => by
    obtain ⟨i, hi, e⟩ := List.getElem_of_mem hs
    exact envChk_all h (by rw [List.getElem?_eq_getElem hi, e])
  have hmap : ∀ m : List LB, (∀ s ∈ m, (parseP s).isSome = true) → (pairsOf m).map textS = m := by
    intro m hm
    induction m with
    | nil => rfl
    | cons s r ih =>
      obtain ⟨p, hp⟩ := Option.isSome_iff_exists.1 (hm s List.mem_cons_self)
      unfold pairsOf
      rw [List.filterMap_cons_some hp, List.map_cons, parse_text hp]
      congr 1
      exact ih (fun x hx => hm x (List.mem_cons_of_mem _ hx))
  have hm := hmap l hsome
  have hgood : Good (pairsOf l) := fun p hp => by
    obtain ⟨s, _, e⟩ := List.mem_filterMap.1 hp
    exact good_of e
  have hlen : (pairsOf l).length = l.length := by
    have := congrArg List.length hm
    rwa [List.length_map] at this
  refine ⟨hm, ?_, hgood, hlen, h32⟩
  have adj : ∀ i, 0 < i → (hi : i < (pairsOf l).length) → ((pairsOf l)[i - 1]'(by omega)).1 < ((pairsOf l)[i]).1 := fun i h0 hi => by
    have hk : ∀ j, (hj : j < (pairsOf l).length) → keyE l j = ((pairsOf l)[j]).1 := fun j hj => by
      have e := pairAt_text hgood (List.getElem?_eq_getElem hj)
      rw [hm] at e
      unfold keyE
      rw [e]; rfl
    have := hall i (by omega)
    unfold okE at this
    simp only [Bool.and_eq_true, Bool.or_eq_true, decide_eq_true_eq, bytesLess_eq] at this
    rcases this.2 with h | h
    · omega
    · rwa [hk (i - 1) (by omega), hk i hi] at h
  have go : ∀ S : List St, (∀ i, 0 < i → (hi : i < S.length) → (S[i - 1]'(by omega)).1 < (S[i]).1) → sortedS S := by
    intro S
    induction S with
    | nil => exact fun _ => List.Pairwise.nil
    | cons p r ih =>
      intro hadj
      have ihr := ih (fun i h0 hi => by
        have := hadj (i + 1) (by omega) (by simpa using hi)
        obtain ⟨j, rfl⟩ : ∃ j, i = j + 1 := ⟨i - 1, by omega⟩
        simpa using this)
      cases r with
      | nil => exact List.pairwise_singleton _ _
      | cons q r =>
        have hpq : p.1 < q.1 := hadj 1 (by omega) (by simp)
        refine List.Pairwise.cons (fun z hz => ?_) ihr
        rcases List.mem_cons.1 hz with rfl | hz
        · exact hpq
        · exact blt_trans hpq ((List.pairwise_cons.1 ihr).1 z hz)
  exact go _ adj
theorem getE_look {l : List LB} (h : envChk l = true) (nm : LB) : getE l nm = lookS (pairsOf l) nm := by
  obtain ⟨h1, h2, h3, h4, h5⟩ := pairs_of h
  have := get_texts h2 h3 (by omega) nm
  rwa [h1] at this
theorem good_ins {S : List St} (h : Good S) {p : St} (hp : parseP (textS p) = some p) : Good (insS S p) := fun q hq => by
  rcases ins_len S p q hq with rfl | hq
  · exact hp
  · exact h q hq
theorem ins_length {S : List St} (h : sortedS S) (p : St) : (insS S p).length = (notK p.1 S).length + 1 := by
  have e := put_ins h p
  rw [← e]
  have := atK_le p.1 (notK p.1 S)
  simp only [List.length_append, List.length_take, List.length_drop, List.length_singleton]
  omega
def formsP (n v : LB) : Bool := decide (parseP (textS (n, v)) = some (n, v))
def setP (l : List LB) (n v : LB) : List LB × Nat :=
  if (envChk l && formsP n v) = true then (if (notK n (pairsOf l)).length = 32 then (l, 4) else ((insS (pairsOf l) (n, v)).map textS, 0)) else (l, 2)
def unsE (l : List LB) (n : LB) : List LB := if envChk l = true then (notK n (pairsOf l)).map textS else l
theorem notK_le (n : LB) (S : List St) : (notK n S).length ≤ S.length := List.length_filter_le _ _
theorem notK_look (n : LB) (S : List St) : lookS (notK n S) n = none := by
  unfold lookS notK
  rw [List.find?_eq_none.2 (fun q hq => by have := (List.mem_filter.1 hq).2; simpa using this)]; rfl
theorem set_spec {l : List LB} (h : envChk l = true) (n v : LB) :
    envChk (setP l n v).1 = true ∧ ((setP l n v).2 ≠ 0 → (setP l n v).1 = l) ∧ ((setP l n v).2 = 0 → getE (setP l n v).1 n = some v) ∧ ∀ o, o ≠ n → getE (setP l n v).1 o = getE l o := by
  obtain ⟨h1, h2, h3, h4, h5⟩ := pairs_of h
  unfold setP
  by_cases hf : (envChk l && formsP n v) = true
  · rw [if_pos hf]
    rw [Bool.and_eq_true] at hf
    have hp : parseP (textS (n, v)) = some (n, v) := of_decide_eq_true hf.2
    by_cases h32 : (notK n (pairsOf l)).length = 32
    · rw [if_pos h32]
      exact ⟨h, fun _ => rfl, (fun e => absurd (show (4 : Nat) = 0 from e) (by decide)), fun o _ => rfl⟩
    · rw [if_neg h32]
      have hs := ins_sorted h2 (n, v)
      have hg := good_ins h3 hp
      have hl : (insS (pairsOf l) (n, v)).length ≤ 32 := by
        rw [ins_length h2]
        have := notK_le n (pairsOf l)
        show (notK n (pairsOf l)).length + 1 ≤ 32
        omega
      refine ⟨chk_texts hs hg hl, fun e => absurd rfl e, fun _ => ?_, fun o ho => ?_⟩
      · rw [get_texts hs hg hl, ins_look, if_pos rfl]
      · rw [get_texts hs hg hl, ins_look, if_neg ho, getE_look h]
  · rw [if_neg hf]
    exact ⟨h, fun _ => rfl, (fun e => absurd (show (2 : Nat) = 0 from e) (by decide)), fun o _ => rfl⟩
theorem unsE_spec {l : List LB} (h : envChk l = true) (n : LB) : envChk (unsE l n) = true ∧ getE (unsE l n) n = none := by
  obtain ⟨h1, h2, h3, h4, h5⟩ := pairs_of h
  unfold unsE
  rw [if_pos h]
  have hs : sortedS (notK n (pairsOf l)) := List.Pairwise.sublist List.filter_sublist h2
  have hl : (notK n (pairsOf l)).length ≤ 32 := Nat.le_trans (notK_le n _) (by omega)
  exact ⟨chk_texts hs (notK_good h3 n) hl, by rw [get_texts hs (notK_good h3 n) hl, notK_look]⟩
end Go.Proofs.YtaibmfahfkoahaaGreat
