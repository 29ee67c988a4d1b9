/- Variables as plain lists: the order of names, what is found, what a change keeps. No program. -/
import Derived.Test.YtpioelpmdaeieaaGreatDoorVarF
namespace Go.Proofs.YtpioelpmdaeieaaGreatDoor
open Go.RowKit
set_option linter.unusedVariables false
theorem bytesLess_eq : ∀ (x y : LB), Op.bytesLess x y = decide (x < y)
  | [], [] => by simp [Op.bytesLess]
  | _ :: _, [] => by simp [Op.bytesLess]
  | [], _ :: _ => by simp [Op.bytesLess]
  | a :: x, b :: y => by
    rw [Op.bytesLess, bytesLess_eq x y]
    simp only [List.cons_lt_cons_iff]
    by_cases h1 : a < b <;> by_cases h2 : a = b <;> by_cases h3 : x < y <;> simp [h1, h2, h3]
/-- The order of names. -/
theorem blt_irrefl (a : LB) : ¬ a < a := List.lt_irrefl a
theorem blt_trans {a b c : LB} (h : a < b) (k : b < c) : a < c := List.lt_trans h k
theorem blt_tri (a b : LB) : a < b ∨ a = b ∨ b < a := by
  rcases Decidable.em (a < b) with h | h
  · exact .inl h
  · rcases Decidable.em (b < a) with k | k
    · exact .inr (.inr k)
    · exact .inr (.inl (List.le_antisymm (List.not_lt.1 k) (List.not_lt.1 h)))
theorem blt_asymm {a b : LB} (h : a < b) : ¬ b < a := fun k => blt_irrefl a (blt_trans h k)
theorem cmp_neg : ∀ (a b : LB), (Lib.compareBytes a b < 0 ↔ a < b)
  | [], [] => by simp [Lib.compareBytes]
  | [], _ :: _ => by simp [Lib.compareBytes]
  | _ :: _, [] => by simp [Lib.compareBytes]
  | a :: x, b :: y => by
    have ih := cmp_neg x y
    rw [Lib.compareBytes, List.cons_lt_cons_iff]
    by_cases h1 : a < b
    · simp [h1]
    · by_cases h2 : b < a
      · have h3 : a ≠ b := by rintro rfl; exact UInt8.lt_irrefl _ h2
        simp [h1, h2, h3]
      · have h3 : a = b := UInt8.le_antisymm (UInt8.not_lt.1 h2) (UInt8.not_lt.1 h1)
        simp [h3, ih]
theorem cmp_zero : ∀ (a b : LB), (Lib.compareBytes a b = 0 ↔ a = b)
  | [], [] => by simp [Lib.compareBytes]
  | [], _ :: _ => by simp [Lib.compareBytes]
  | _ :: _, [] => by simp [Lib.compareBytes]
  | a :: x, b :: y => by
    have ih := cmp_zero x y
    rw [Lib.compareBytes]
    by_cases h1 : a < b
    · have h3 : a ≠ b := by rintro rfl; exact UInt8.lt_irrefl _ h1
      simp [h1, h3]
    · by_cases h2 : b < a
      · have h3 : a ≠ b := by rintro rfl; exact UInt8.lt_irrefl _ h2
        simp [h1, h2, h3]
      · have h3 : a = b := UInt8.le_antisymm (UInt8.not_lt.1 h2) (UInt8.not_lt.1 h1)
        simp [h3, ih]
def sortedP (l : List Vr) : Prop := l.Pairwise fun x y => x.name < y.name
theorem nmAt_get {l : List Vr} {k : Nat} {x : Vr} (h : l[k]? = some x) : nmAt l k = x.name := by unfold nmAt; rw [h]
theorem nmAt_lt {l : List Vr} {k : Nat} (h : k < l.length) : nmAt l k = (l[k]).name := nmAt_get (List.getElem?_eq_getElem h)
theorem adj_sorted : ∀ (l : List Vr), (∀ i, 0 < i → i < l.length → nmAt l (i - 1) < nmAt l i) → sortedP l
  | [], _ => List.Pairwise.nil
  | [x], _ => List.pairwise_singleton _ _
  | x :: y :: r, h => by
    have ih := adj_sorted (y :: r) (fun i h0 h1 => by
      have := h (i + 1) (by omega) (by simpa using h1)
      obtain ⟨j, rfl⟩ : ∃ j, i = j + 1 := ⟨i - 1, by omega⟩
      simpa [nmAt] using this)
    have hxy : x.name < y.name := by simpa [nmAt] using h 1 (by omega) (by simp)
    refine List.Pairwise.cons (fun z hz => ?_) ih
    rcases List.mem_cons.1 hz with rfl | hz
    · exact hxy
    · exact blt_trans hxy ((List.pairwise_cons.1 ih).1 z hz)
theorem sorted_at {l : List Vr} (h : sortedP l) {i j : Nat} (hij : i < j) (hj : j < l.length) : nmAt l i < nmAt l j := by
  rw [nmAt_lt hj, nmAt_lt (by omega : i < l.length)]
  exact List.pairwise_iff_getElem.1 h i j (by omega) hj hij
theorem check_iff (l : List Vr) : checkP l = true ↔ l.length ≤ 64 ∧ (∀ x ∈ l, validP x = true) ∧ sortedP l := by
  unfold checkP
  rw [Bool.and_eq_true, decide_eq_true_eq, List.all_eq_true]
  constructor
  · rintro ⟨h1, h2⟩
    refine ⟨h1, fun x hx => ?_, adj_sorted l fun i h0 hi => ?_⟩
    · obtain ⟨i, hi, e⟩ := List.getElem_of_mem hx
      have := h2 i (by simpa using hi)
      unfold okAt at this
      rw [List.getElem?_eq_getElem hi, e] at this
      simp only [Bool.and_eq_true] at this
      exact this.1
    · have := h2 i (by simpa using hi)
      unfold okAt at this
      simp only [Bool.and_eq_true, Bool.or_eq_true, decide_eq_true_eq, bytesLess_eq] at this
      rcases this.2 with h | h
      · omega
      · exact h
  · rintro ⟨h1, h2, h3⟩
    refine ⟨h1, fun i hi => ?_⟩
    have hi : i < l.length := by simpa using hi
    unfold okAt
    rw [List.getElem?_eq_getElem hi, Bool.and_eq_true, Bool.or_eq_true, decide_eq_true_eq, bytesLess_eq, decide_eq_true_eq]
    refine ⟨h2 _ (List.getElem_mem hi), ?_⟩
    rcases Nat.eq_zero_or_pos i with h | h
    · exact .inl h
    · exact .inr (sorted_at h3 (by omega) hi)
/-- A place with all smaller names ahead and no smaller one behind. -/
def PlaceOf (l : List Vr) (s : LB) (k : Nat) : Prop := k ≤ l.length ∧ (∀ i, i < k → nmAt l i < s) ∧ ∀ i, k ≤ i → i < l.length → ¬ nmAt l i < s
theorem place_one {l : List Vr} {s : LB} {k j : Nat} (h : PlaceOf l s k) (h' : PlaceOf l s j) : k = j := by
  obtain ⟨a1, a2, a3⟩ := h
  obtain ⟨b1, b2, b3⟩ := h'
  rcases Nat.lt_trichotomy k j with h | h | h
  · exact absurd (b2 k h) (a3 k (Nat.le_refl _) (by omega))
  · exact h
  · exact absurd (a2 j h) (b3 j (Nat.le_refl _) (by omega))
theorem bsF_place {l : List Vr} (hs : sortedP l) (s : LB) : ∀ (f lo hi : Nat), hi - lo ≤ f → lo ≤ hi → hi ≤ l.length → (∀ i, i < lo → nmAt l i < s) → (∀ i, hi ≤ i → i < l.length → ¬ nmAt l i < s) → PlaceOf l s (bsF l s f lo hi)
  | 0, lo, hi, h, h0, h1, h2, h3 => by
    obtain rfl : lo = hi := by omega
    exact ⟨h1, h2, h3⟩
  | f + 1, lo, hi, h, h0, h1, h2, h3 => by
    rw [bsF]
    by_cases hlt : lo < hi
    · rw [if_pos hlt]
      by_cases hc : Lib.compareBytes (nmAt l ((lo + hi) / 2)) s < 0
      · rw [if_pos hc]
        refine bsF_place hs s f _ _ (by omega) (by omega) h1 (fun i hi' => ?_) h3
        rcases Nat.lt_or_ge i ((lo + hi) / 2) with h | h
        · exact blt_trans (sorted_at hs h (by omega)) ((cmp_neg _ _).1 hc)
        · obtain rfl : i = (lo + hi) / 2 := by omega
          exact (cmp_neg _ _).1 hc
      · rw [if_neg hc]
        refine bsF_place hs s f _ _ (by omega) (by omega) (by omega) h2 (fun i hi' hl hn => ?_)
        rcases Nat.lt_or_ge ((lo + hi) / 2) i with h | h
        · exact hc ((cmp_neg _ _).2 (blt_trans (sorted_at hs h hl) hn))
        · obtain rfl : i = (lo + hi) / 2 := by omega
          exact hc ((cmp_neg _ _).2 hn)
    · rw [if_neg hlt]
      obtain rfl : lo = hi := by omega
      exact ⟨h1, h2, h3⟩
theorem find_place {l : List Vr} (hs : sortedP l) (s : LB) : PlaceOf l s (findP l s) := bsF_place hs s _ 0 _ (by omega) (Nat.zero_le _) (Nat.le_refl _) (fun i h => by omega) (fun i h h' => by omega)
/-- The document's place: the first one whose name is not smaller. -/
def posP (l : List Vr) (s : LB) : Nat := (l.takeWhile fun x => decide (x.name < s)).length
theorem pos_le (l : List Vr) (s : LB) : posP l s ≤ l.length := List.Sublist.length_le (List.takeWhile_sublist _)
theorem pos_ahead : ∀ (l : List Vr) (s : LB) (i : Nat), i < posP l s → nmAt l i < s
  | [], s, i, h => by simp [posP] at h
  | x :: r, s, i, h => by
    unfold posP at h
    by_cases hx : x.name < s
    · rw [List.takeWhile_cons_of_pos (by simpa using hx)] at h
      match i with
      | 0 => exact hx
      | i + 1 => exact pos_ahead r s i (by simpa [posP] using h)
    · rw [List.takeWhile_cons_of_neg (by simpa using hx)] at h
      simp at h
theorem pos_stop : ∀ (l : List Vr) (s : LB), posP l s < l.length → ¬ nmAt l (posP l s) < s
  | [], s, h => by simp [posP] at h
  | x :: r, s, h => by
    unfold posP at h ⊢
    by_cases hx : x.name < s
    · rw [List.takeWhile_cons_of_pos (by simpa using hx)] at h ⊢
      exact pos_stop r s (by simpa [posP] using h)
    · rw [List.takeWhile_cons_of_neg (by simpa using hx)]
      exact hx
theorem pos_place {l : List Vr} (hs : sortedP l) (s : LB) : PlaceOf l s (posP l s) := by
  refine ⟨pos_le l s, pos_ahead l s, fun i h1 h2 hn => ?_⟩
  rcases Nat.lt_or_ge (posP l s) i with h | h
  · exact pos_stop l s (by omega) (blt_trans (sorted_at hs h h2) hn)
  · obtain rfl : i = posP l s := by omega
    exact pos_stop l s h2 hn
theorem find_pos {l : List Vr} (hs : sortedP l) (s : LB) : findP l s = posP l s := place_one (find_place hs s) (pos_place hs s)
theorem found_eq (l : List Vr) (s : LB) : foundP l s = decide (findP l s < l.length ∧ nmAt l (findP l s) = s) := by
  unfold foundP
  by_cases h : findP l s < l.length
  · have := cmp_zero (nmAt l (findP l s)) s
    by_cases h2 : nmAt l (findP l s) = s
    · simp [h, h2]; exact (cmp_zero _ _).2 rfl
    · simp [h, h2]; exact fun h3 => h2 (this.1 h3)
  · simp [h]
/-- What stands under a name. -/
def lookP (l : List Vr) (s : LB) : Option Vr := l.find? fun x => decide (x.name = s)
theorem look_none {l : List Vr} {s : LB} (h : ∀ x ∈ l, x.name ≠ s) : lookP l s = none := List.find?_eq_none.2 fun x hx => by simpa using h x hx
theorem look_append (a b : List Vr) (s : LB) : lookP (a ++ b) s = (lookP a s).or (lookP b s) := List.find?_append
theorem look_cons (x : Vr) (b : List Vr) (s : LB) : lookP (x :: b) s = if x.name = s then some x else lookP b s := by
  unfold lookP
  by_cases h : x.name = s <;> simp [h]
theorem split_at {l : List Vr} {k : Nat} {x : Vr} (h : l[k]? = some x) : l = l.take k ++ x :: l.drop (k + 1) := by
  obtain ⟨h1, h2⟩ := List.getElem?_eq_some_iff.1 h
  rw [← h2, List.getElem_cons_drop, List.take_append_drop]
theorem mem_take_nm {l : List Vr} {k : Nat} {x : Vr} (h : x ∈ l.take k) : ∃ i, i < k ∧ i < l.length ∧ nmAt l i = x.name := by
  obtain ⟨i, hi, e⟩ := List.getElem_of_mem h
  rw [List.length_take] at hi
  refine ⟨i, by omega, by omega, ?_⟩
  rw [nmAt_lt (by omega), ← e, List.getElem_take]
theorem mem_drop_nm {l : List Vr} {k : Nat} {x : Vr} (h : x ∈ l.drop k) : ∃ i, k ≤ i ∧ i < l.length ∧ nmAt l i = x.name := by
  obtain ⟨i, hi, e⟩ := List.getElem_of_mem h
  rw [List.length_drop] at hi
  refine ⟨k + i, by omega, by omega, ?_⟩
  rw [nmAt_lt (by omega), ← e, List.getElem_drop]
section place
variable {l : List Vr} {s : LB} {k : Nat}
theorem take_ne (h : PlaceOf l s k) : ∀ x ∈ l.take k, x.name < s := by
  intro x hx
  obtain ⟨i, h1, h2, e⟩ := mem_take_nm hx
  rw [← e]; exact h.2.1 i h1
theorem drop_gt (hs : sortedP l) (h : PlaceOf l s k) (hf : k < l.length → nmAt l k ≠ s) : ∀ x ∈ l.drop k, s < x.name := by
  intro x hx
  obtain ⟨i, h1, h2, e⟩ := mem_drop_nm hx
  rw [← e]
  rcases blt_tri (nmAt l i) s with h3 | h3 | h3
  · exact absurd h3 (h.2.2 i h1 h2)
  · rcases Nat.lt_or_ge k i with h4 | h4
    · have := sorted_at hs h4 h2
      rw [h3] at this
      exact absurd this (h.2.2 k (Nat.le_refl _) (by omega))
    · obtain rfl : i = k := by omega
      exact absurd h3 (hf h2)
  · exact h3
theorem drop_gt' (hs : sortedP l) (hk : k < l.length) (e0 : nmAt l k = s) : ∀ x ∈ l.drop (k + 1), s < x.name := by
  intro x hx
  obtain ⟨i, h1, h2, e⟩ := mem_drop_nm hx
  rw [← e, ← e0]
  exact sorted_at hs (by omega) h2
theorem blt_ne {a b : LB} (h : a < b) : a ≠ b := by rintro rfl; exact blt_irrefl _ h
/-- What is looked up is what the search finds. -/
theorem look_found (hs : sortedP l) (h : PlaceOf l s k) (hk : k < l.length) (e0 : nmAt l k = s) : lookP l s = l[k]? := by
  have hx := List.getElem?_eq_getElem hk
  rw [hx]
  conv => lhs; rw [split_at hx]
  rw [look_append, look_none (fun x hx => blt_ne (take_ne h x hx)), Option.none_or, look_cons, if_pos (by rw [← e0, nmAt_lt hk])]
theorem look_missed (hs : sortedP l) (h : PlaceOf l s k) (hf : k < l.length → nmAt l k ≠ s) : lookP l s = none := by
  refine look_none fun x hx => ?_
  rw [← List.take_append_drop k l] at hx
  rcases List.mem_append.1 hx with hx | hx
  · exact blt_ne (take_ne h x hx)
  · exact (blt_ne (drop_gt hs h hf x hx)).symm
end place
theorem found_look {l : List Vr} (hs : sortedP l) (s : LB) : foundP l s = (lookP l s).isSome ∧ (foundP l s = true → lookP l s = l[findP l s]?) := by
  have hp := find_place hs s
  rw [found_eq]
  by_cases h : findP l s < l.length ∧ nmAt l (findP l s) = s
  · have := look_found hs hp h.1 h.2
    rw [this, List.getElem?_eq_getElem h.1]
    simp [h]
  · have := look_missed hs hp (fun h1 h2 => h ⟨h1, h2⟩)
    rw [this]
    simp [h]
theorem get_look {l : List Vr} (hc : checkP l = true) (s : LB) : hasP l s = (lookP l s).isSome ∧ getP l s = ((lookP l s).map (·.value)).getD [] := by
  have hs := ((check_iff l).1 hc).2.2
  obtain ⟨h1, h2⟩ := found_look hs s
  have e : hasP l s = (lookP l s).isSome := by unfold hasP; rw [h1, hc, Bool.and_true]
  refine ⟨e, ?_⟩
  unfold getP
  rw [e]
  by_cases hf : foundP l s = true
  · have h3 := h2 hf
    rw [h1] at hf
    rw [if_pos hf, h3]
    unfold valAt
    obtain ⟨x, hx⟩ := Option.isSome_iff_exists.1 hf
    rw [h3] at hx
    rw [hx]; rfl
  · rw [h1] at hf
    rw [if_neg hf]
    have : lookP l s = none := by simpa using hf
    rw [this]; rfl
theorem split_same {l : List Vr} {k : Nat} {x : Vr} (h : l[k]? = some x) : l.take k ++ [x] ++ l.drop (k + 1) = l := by
  conv => rhs; rw [split_at h]
  simp
/-- What stands under a name, or a new variable. -/
def oldP (l : List Vr) (s : LB) : Vr := if foundP l s = true then (l[findP l s]?).getD ⟨s, [], false⟩ else ⟨s, [], false⟩
def chgP (l : List Vr) (s : LB) (f : Vr → Vr) : List Vr × Nat :=
  if (checkP l && validP (f (oldP l s))) = true then
    if foundP l s = true then (l.take (findP l s) ++ [f (oldP l s)] ++ l.drop (findP l s + 1), 0)
    else if 64 ≤ l.length then (l, 4) else (l.take (findP l s) ++ [f (oldP l s)] ++ l.drop (findP l s), 0)
  else (l, 2)
theorem old_look {l : List Vr} (hs : sortedP l) (s : LB) : oldP l s = (lookP l s).getD ⟨s, [], false⟩ := by
  obtain ⟨h1, h2⟩ := found_look hs s
  unfold oldP
  by_cases h : foundP l s = true
  · rw [if_pos h, h2 h]
  · rw [if_neg h]
    have : lookP l s = none := by
      rw [h1] at h; simpa using h
    rw [this]; rfl
theorem look_name {l : List Vr} {s : LB} {x : Vr} (h : lookP l s = some x) : x.name = s := by
  have := List.find?_some h
  simpa using this
theorem old_name {l : List Vr} (hs : sortedP l) (s : LB) : (oldP l s).name = s := by
  rw [old_look hs]
  cases h : lookP l s with
  | none => rfl
  | some x => exact look_name h
theorem sorted_put {a b : List Vr} {x : Vr} (ha : sortedP a) (hb : sortedP b) (h1 : ∀ y ∈ a, y.name < x.name) (h2 : ∀ y ∈ b, x.name < y.name) : sortedP (a ++ [x] ++ b) := by
  unfold sortedP at *
  rw [List.pairwise_append]
  refine ⟨?_, hb, ?_⟩
  · rw [List.pairwise_append]
    refine ⟨ha, List.pairwise_singleton _ _, fun y hy z hz => ?_⟩
    rw [List.mem_singleton] at hz
    subst hz
    exact h1 y hy
  · intro y hy z hz
    rcases List.mem_append.1 hy with hy | hy
    · exact blt_trans (h1 y hy) (h2 z hz)
    · rw [List.mem_singleton] at hy
      subst hy
      exact h2 z hz
theorem check_put {l : List Vr} (hc : checkP l = true) (k j : Nat) (hkj : k ≤ j) {x : Vr} (hx : validP x = true) (hn : (l.take k).length + 1 + (l.drop j).length ≤ 64)
    (h1 : ∀ y ∈ l.take k, y.name < x.name) (h2 : ∀ y ∈ l.drop j, x.name < y.name) : checkP (l.take k ++ [x] ++ l.drop j) = true := by
  obtain ⟨_, c2, c3⟩ := (check_iff l).1 hc
  refine (check_iff _).2 ⟨by simp only [List.length_append, List.length_singleton]; omega, fun y hy => ?_, sorted_put (c3.sublist (List.take_sublist _ _)) (c3.sublist (List.drop_sublist _ _)) h1 h2⟩
  rcases List.mem_append.1 hy with hy | hy
  · rcases List.mem_append.1 hy with hy | hy
    · exact c2 y (List.mem_of_mem_take hy)
    · rw [List.mem_singleton] at hy
      subst hy; exact hx
  · exact c2 y (List.mem_of_mem_drop hy)
theorem look_put {a b : List Vr} {x : Vr} (h1 : ∀ y ∈ a, y.name < x.name) (s : LB) : lookP (a ++ [x] ++ b) s = if s = x.name then some x else lookP (a ++ b) s := by
  rw [List.append_assoc, look_append, List.singleton_append, look_cons, look_append]
  by_cases h : s = x.name
  · subst h
    rw [if_pos rfl, if_pos rfl, look_none (fun y hy => blt_ne (h1 y hy)), Option.none_or]
  · rw [if_neg (fun e => h e.symm), if_neg h]
/-- What a change keeps. -/
theorem chg_spec {l : List Vr} (hc : checkP l = true) (s : LB) (f : Vr → Vr) (hf : ∀ x, (f x).name = x.name) :
    ((chgP l s f).2 ≠ 0 → (chgP l s f).1 = l) ∧ checkP (chgP l s f).1 = true ∧
    ((chgP l s f).2 = 0 → ∀ s', lookP (chgP l s f).1 s' = if s' = s then some (f (oldP l s)) else lookP l s') := by
  obtain ⟨c1, c2, c3⟩ := (check_iff l).1 hc
  have hp := find_place c3 s
  have hx : (f (oldP l s)).name = s := by rw [hf, old_name c3]
  unfold chgP
  by_cases hv : (checkP l && validP (f (oldP l s))) = true
  · rw [if_pos hv]
    rw [Bool.and_eq_true] at hv
    by_cases h : foundP l s = true
    · rw [if_pos h]
      rw [found_eq, decide_eq_true_eq] at h
      obtain ⟨h1, h2⟩ := h
      have g1 : ∀ y ∈ l.take (findP l s), y.name < (f (oldP l s)).name := by rw [hx]; exact take_ne hp
      have g2 : ∀ y ∈ l.drop (findP l s + 1), (f (oldP l s)).name < y.name := by rw [hx]; exact drop_gt' c3 h1 h2
      refine ⟨fun h => absurd rfl h, check_put hc _ _ (by omega) hv.2 (by rw [List.length_take, List.length_drop]; omega) g1 g2, fun _ s' => ?_⟩
      rw [look_put g1, hx]
      by_cases hs : s' = s
      · rw [if_pos hs, if_pos hs]
      · rw [if_neg hs, if_neg hs]
        conv => rhs; rw [split_at (List.getElem?_eq_getElem h1)]
        rw [look_append, look_append, look_cons, if_neg]
        rw [← nmAt_lt h1, h2]
        exact fun e => hs e.symm
    · rw [if_neg h]
      by_cases h64 : 64 ≤ l.length
      · rw [if_pos h64]
        exact ⟨fun _ => rfl, hc, fun h => by cases h⟩
      · rw [if_neg h64]
        rw [found_eq, decide_eq_true_eq] at h
        have g1 : ∀ y ∈ l.take (findP l s), y.name < (f (oldP l s)).name := by rw [hx]; exact take_ne hp
        have g2 : ∀ y ∈ l.drop (findP l s), (f (oldP l s)).name < y.name := by rw [hx]; exact drop_gt c3 hp (fun h1 h2 => h ⟨h1, h2⟩)
        refine ⟨fun h => absurd rfl h, check_put hc _ _ (Nat.le_refl _) hv.2 (by rw [List.length_take, List.length_drop]; omega) g1 g2, fun _ s' => ?_⟩
        rw [look_put g1, hx, List.take_append_drop]
  · rw [if_neg hv]
    exact ⟨fun _ => rfl, hc, fun h => by cases h⟩
def unsP (l : List Vr) (s : LB) : List Vr := if hasP l s = true then l.take (findP l s) ++ l.drop (findP l s + 1) else l
theorem uns_look {l : List Vr} (hc : checkP l = true) (s : LB) : lookP (unsP l s) s = none := by
  obtain ⟨c1, c2, c3⟩ := (check_iff l).1 hc
  have hp := find_place c3 s
  unfold unsP hasP
  rw [hc, Bool.and_true]
  by_cases h : foundP l s = true
  · rw [if_pos h]
    rw [found_eq, decide_eq_true_eq] at h
    refine look_none fun y hy => ?_
    rcases List.mem_append.1 hy with hy | hy
    · exact blt_ne (take_ne hp y hy)
    · exact (blt_ne (drop_gt' c3 h.1 h.2 y hy)).symm
  · rw [if_neg h]
    rw [found_eq, decide_eq_true_eq] at h
    exact look_missed c3 hp (fun h1 h2 => h ⟨h1, h2⟩)
theorem uns_check {l : List Vr} (hc : checkP l = true) (s : LB) : checkP (unsP l s) = true := by
  obtain ⟨c1, c2, c3⟩ := (check_iff l).1 hc
  unfold unsP
  by_cases h : hasP l s = true
  · rw [if_pos h]
    have hk : findP l s < l.length := by
      unfold hasP at h
      rw [Bool.and_eq_true, found_eq, decide_eq_true_eq] at h
      exact h.1.1
    have hsub : (l.take (findP l s) ++ l.drop (findP l s + 1)).Sublist l := by
      conv => rhs; rw [split_at (List.getElem?_eq_getElem hk)]
      exact List.Sublist.append (List.Sublist.refl _) (List.sublist_cons_self _ _)
    exact (check_iff _).2 ⟨Nat.le_trans hsub.length_le c1, fun y hy => c2 y (hsub.subset hy), c3.sublist hsub⟩
  · rw [if_neg h]; exact hc
end Go.Proofs.YtpioelpmdaeieaaGreatDoor
