/- Paths as lists of parts: the plain mathematics (seat 04). -/
import Derived.Test.YthbackkcamgidaaGreatDoorPgS
import Derived.Lib.Split
import Derived.Lib.Join
import Derived.Lib.Strings
namespace Go.Proofs.YthbackkcamgidaaGreatDoor
open Go.RowKit
set_option linter.unusedVariables false

/-- A text cut at every c. -/
def splitC (c : UInt8) : Bs → List Bs
  | [] => [[]]
  | x :: r => if x = c then [] :: splitC c r else (x :: (splitC c r).headD []) :: (splitC c r).tail
theorem splitC_ne (c : UInt8) (s : Bs) : splitC c s ≠ [] := by
  cases s with
  | nil => simp [splitC]
  | cons x r => unfold splitC; split <;> simp
theorem splitC_form (c : UInt8) (s : Bs) : ∃ h t, splitC c s = h :: t := by
  cases e : splitC c s with
  | nil => exact absurd e (splitC_ne c s)
  | cons h t => exact ⟨h, t, rfl⟩
theorem split_eq (c : UInt8) : ∀ s : Bs, Lib.split s [c] = splitC c s
  | [] => rfl
  | x :: r => by
    have ih := split_eq c r
    unfold Lib.split at ih ⊢
    by_cases hx : x = c
    · subst hx
      have hi : Lib.index (x :: r) [x] = ((0 : Nat) : Int) := by unfold Lib.index; simp [List.isPrefixOf]
      rw [Lib.count_hit (by simp) hi]
      rw [show 1 + Lib.count (List.drop (0 + [x].length) (x :: r)) [x] = Lib.count r [x] + 1 by simp [Nat.add_comm]]
      unfold Lib.splitK
      rw [if_neg (by rw [hi]; decide), hi]
      simp only [splitC, if_true]
      simpa using ih
    · have h0 : Lib.index (x :: r) [c] = if Lib.index r [c] == -1 then -1 else Lib.index r [c] + 1 := by
        rw [Lib.index]; simp [List.isPrefixOf, Ne.symm hx]
      rcases Lib.index_spec r [c] with ⟨h1, _⟩ | ⟨i, h1, h2, h3, _⟩
      · have hm : Lib.index (x :: r) [c] = -1 := by rw [h0, h1]; rfl
        rw [Lib.count_miss hm]
        rw [Lib.count_miss h1] at ih
        simp only [Lib.splitK] at ih ⊢
        rw [splitC, if_neg hx, ← ih]
        rfl
      · have hm : Lib.index (x :: r) [c] = ((i + 1 : Nat) : Int) := by
          rw [h0, h1, if_neg (by simp)]; omega
        rw [Lib.count_hit (by simp) hm]
        rw [Lib.count_hit (by simp) h1] at ih
        have e1 : List.drop (i + 1 + [c].length) (x :: r) = List.drop (i + [c].length) r := by simp
        rw [e1]
        generalize hk : Lib.count (List.drop (i + [c].length) r) [c] = k at ih ⊢
        rw [show 1 + k = k + 1 by omega] at ih ⊢
        unfold Lib.splitK at ih ⊢
        rw [if_neg (by rw [h1]; simp), h1] at ih
        rw [if_neg (by rw [hm]; simp; omega), hm]
        rw [splitC, if_neg hx, ← ih]
        simp
theorem splitC_app (c : UInt8) (a b : Bs) : splitC c (a ++ c :: b) = splitC c a ++ splitC c b := by
  induction a with
  | nil => simp [splitC]
  | cons x r ih =>
    rw [List.cons_append, splitC, splitC, ih]
    obtain ⟨h, t, e⟩ := splitC_form c r
    rw [e]
    split <;> simp
theorem splitC_no (c : UInt8) (a : Bs) (h : c ∉ a) : splitC c a = [a] := by
  induction a with
  | nil => rfl
  | cons x r ih =>
    have h1 : x ≠ c := fun e => h (by simp [e])
    rw [splitC, if_neg h1, ih (fun e => h (by simp [e]))]
    rfl
theorem splitC_mem (c : UInt8) (s : Bs) : ∀ k ∈ splitC c s, c ∉ k := by
  induction s with
  | nil => simp [splitC]
  | cons x r ih =>
    obtain ⟨h, t, e⟩ := splitC_form c r
    rw [splitC]
    rw [e] at ih ⊢
    split
    · intro k hk
      rcases List.mem_cons.1 hk with rfl | hk
      · simp
      · exact ih k hk
    · rename_i hx
      intro k hk
      rcases List.mem_cons.1 hk with rfl | hk
      · have := ih h (by simp)
        simp only [List.headD_cons, List.mem_cons, not_or]
        exact ⟨Ne.symm hx, this⟩
      · exact ih k (List.mem_cons_of_mem _ hk)

/-- The parts of a path. -/
def parts (s : Bs) : List Bs := (splitC 47 s).filter fun k => !k.isEmpty
/-- A part that may stand: not empty, no slash. -/
def Part (k : Bs) : Prop := k ≠ [] ∧ (47 : UInt8) ∉ k
theorem parts_mem (s : Bs) : ∀ k ∈ parts s, Part k := by
  intro k hk
  obtain ⟨h1, h2⟩ := List.mem_filter.1 hk
  exact ⟨by simpa using h2, splitC_mem 47 s k h1⟩
theorem parts_app (a b : Bs) : parts (a ++ 47 :: b) = parts a ++ parts b := by unfold parts; rw [splitC_app, List.filter_append]
theorem parts_slash (b : Bs) : parts (47 :: b) = parts b := parts_app [] b
theorem parts_one (k : Bs) (h : Part k) : parts k = [k] := by
  unfold parts
  rw [splitC_no 47 k h.2]
  have := h.1
  cases k with
  | nil => exact absurd rfl this
  | cons c t => rfl
theorem parts_nil : parts [] = [] := rfl

def rooted (s : Bs) : Bool := Lib.hasPrefix s [47]
theorem rooted_nil : rooted [] = false := rfl
theorem rooted_cons (x : UInt8) (r : Bs) : rooted (x :: r) = (x == 47) := by
  unfold rooted Lib.hasPrefix
  by_cases h : x = 47
  · subst h; simp [List.isPrefixOf]
  · have h' : ¬ 47 = x := fun e => h e.symm
    rw [List.isPrefixOf, beq_eq_false_iff_ne.2 h, beq_eq_false_iff_ne.2 h', Bool.false_and]
def stepP (root : Bool) (kept : List Bs) (part : Bs) : List Bs :=
  if part = [46] then kept else if part ≠ [46, 46] then kept ++ [part] else if kept ≠ [] ∧ kept.getLast? ≠ some [46, 46] then kept.dropLast else if root = true then kept else kept ++ [part]
def cleaned (s : Bs) (root : Bool) : List Bs := (parts s).foldl (stepP root) []
def text (root : Bool) (ks : List Bs) : Bs := if root = true then 47 :: Lib.join ks [47] else if Lib.join ks [47] = [] then [46] else Lib.join ks [47]
def clean (s : Bs) : Bs := text (rooted s) (cleaned s (rooted s))
def joinP (a b : Bs) : Bs := if a = [] ∨ rooted b = true then clean b else clean (a ++ 47 :: b)

theorem join_two (x y : Bs) (r : List Bs) : Lib.join (x :: y :: r) [47] = x ++ 47 :: Lib.join (y :: r) [47] := by
  rw [Lib.join_cons, Lib.join_cons]
  simp [Lib.joinTail]
theorem parts_join (ks : List Bs) (h : ∀ k ∈ ks, Part k) : parts (Lib.join ks [47]) = ks := by
  induction ks with
  | nil => rfl
  | cons x r ih =>
    cases r with
    | nil => rw [Lib.join_one, parts_one x (h x (by simp))]
    | cons y r =>
      rw [join_two, parts_app, parts_one x (h x (by simp)), ih (fun k hk => h k (by simp [hk]))]
      rfl
theorem join_ne (x : Bs) (r : List Bs) (h : Part x) : ∃ c t, Lib.join (x :: r) [47] = c :: t ∧ c ≠ 47 := by
  rw [Lib.join_cons]
  obtain ⟨h1, h2⟩ := h
  cases x with
  | nil => exact absurd rfl h1
  | cons c t => exact ⟨c, t ++ Lib.joinTail [47] r, rfl, fun e => h2 (by simp [e])⟩
/-- What is left of a path: parts, none of them a dot, two dots only ahead, and only where there is no root. -/
def Inv (root : Bool) (ks : List Bs) : Prop := ∃ m rest, ks = List.replicate m [46, 46] ++ rest ∧ (∀ k ∈ rest, Part k ∧ k ≠ [46] ∧ k ≠ [46, 46]) ∧ (root = true → m = 0)
theorem Inv.nil (root : Bool) : Inv root [] := ⟨0, [], rfl, by simp, fun _ => rfl⟩
theorem dots_part : Part [46, 46] := ⟨by simp, by decide⟩
theorem Inv.part {root : Bool} {ks : List Bs} (h : Inv root ks) : ∀ k ∈ ks, Part k ∧ k ≠ [46] := by
  obtain ⟨m, rest, rfl, h1, _⟩ := h
  intro k hk
  rcases List.mem_append.1 hk with hk | hk
  · obtain rfl := List.eq_of_mem_replicate hk
    exact ⟨dots_part, by decide⟩
  · exact ⟨(h1 k hk).1, (h1 k hk).2.1⟩
theorem Inv.step {root : Bool} {ks : List Bs} (h : Inv root ks) (k : Bs) (hk : Part k) : Inv root (stepP root ks k) := by
  obtain ⟨m, rest, rfl, h1, h2⟩ := h
  unfold stepP
  by_cases e1 : k = [46]
  · rw [if_pos e1]; exact ⟨m, rest, rfl, h1, h2⟩
  · rw [if_neg e1]
    by_cases e2 : k = [46, 46]
    · rw [if_neg (by simp [e2])]
      rcases List.eq_nil_or_concat rest with rfl | ⟨r', x, rfl⟩
      · rw [List.append_nil]
        have hno : ¬ (List.replicate m ([46, 46] : Bs) ≠ [] ∧ (List.replicate m ([46, 46] : Bs)).getLast? ≠ some [46, 46]) := by
          rintro ⟨g1, g2⟩
          cases m with
          | zero => simp at g1
          | succ m => exact g2 (by simp [List.getLast?_replicate])
        rw [if_neg hno]
        cases root
        · rw [if_neg (by simp), e2]
          exact ⟨m + 1, [], by rw [List.append_nil, List.replicate_succ'], by simp, fun g => by cases g⟩
        · rw [if_pos rfl]
          exact ⟨m, [], by rw [List.append_nil], by simp, h2⟩
      · have hx := h1 x (by simp)
        rw [if_pos]
        · refine ⟨m, r', ?_, fun k hk => h1 k (by simp [hk]), h2⟩
          rw [List.concat_eq_append, ← List.append_assoc, List.dropLast_concat]
        · refine ⟨by simp, ?_⟩
          rw [List.concat_eq_append, ← List.append_assoc, List.getLast?_concat]
          intro e; injection e with e; exact hx.2.2 e
    · rw [if_pos e2]
      refine ⟨m, rest ++ [k], by simp, ?_, h2⟩
      intro k' hk'
      rcases List.mem_append.1 hk' with g | g
      · exact h1 k' g
      · obtain rfl := List.mem_singleton.1 g
        exact ⟨hk, e1, e2⟩
theorem Inv.fold {root : Bool} (ps : List Bs) : ∀ {ks : List Bs}, Inv root ks → (∀ k ∈ ps, Part k) → Inv root (ps.foldl (stepP root) ks) := by
  induction ps with
  | nil => intro ks h _; exact h
  | cons p r ih => intro ks h hp; exact ih (h.step p (hp p (by simp))) (fun k hk => hp k (by simp [hk]))
theorem cleaned_inv (s : Bs) (root : Bool) : Inv root (cleaned s root) := Inv.fold _ (Inv.nil root) (parts_mem s)
/-- What may stand stays as it is. -/
theorem step_keeps {root : Bool} {ks : List Bs} {k : Bs} (h : Inv root (ks ++ [k])) : stepP root ks k = ks ++ [k] := by
  have hp := h.part k (by simp)
  obtain ⟨m, rest, e, h1, h2⟩ := h
  unfold stepP
  rw [if_neg hp.2]
  by_cases e2 : k = [46, 46]
  · rw [if_neg (by simp [e2])]
    rcases List.eq_nil_or_concat rest with rfl | ⟨r', x, rfl⟩
    · rw [List.append_nil] at e
      cases m with
      | zero => simp at e
      | succ m =>
        rw [List.replicate_succ'] at e
        obtain ⟨e3, _⟩ := List.append_inj' e rfl
        have hr : root = false := by
          cases root
          · rfl
          · exact absurd (h2 rfl) (by omega)
        subst hr
        rw [if_neg, if_neg (by simp)]
        rintro ⟨g1, g2⟩
        rw [e3] at g1 g2
        cases m with
        | zero => simp at g1
        | succ m => exact g2 (by simp [List.getLast?_replicate])
    · rw [List.concat_eq_append, ← List.append_assoc] at e
      obtain ⟨_, e3⟩ := List.append_inj' e rfl
      injection e3 with e3
      exact absurd (e3 ▸ e2) (h1 x (by simp)).2.2
  · rw [if_pos e2]
theorem Inv.init {root : Bool} {ks : List Bs} {k : Bs} (h : Inv root (ks ++ [k])) : Inv root ks := by
  obtain ⟨m, rest, e, h1, h2⟩ := h
  rcases List.eq_nil_or_concat rest with rfl | ⟨r', x, rfl⟩
  · rw [List.append_nil] at e
    cases m with
    | zero => simp at e
    | succ m =>
      rw [List.replicate_succ'] at e
      obtain ⟨e3, _⟩ := List.append_inj' e rfl
      exact ⟨m, [], by simpa using e3, by simp, fun g => by have := h2 g; omega⟩
  · rw [List.concat_eq_append, ← List.append_assoc] at e
    obtain ⟨e3, _⟩ := List.append_inj' e rfl
    exact ⟨m, r', e3, fun k hk => h1 k (by simp [hk]), h2⟩
theorem fold_snoc {α β : Type} (f : β → α → β) (b : β) (l : List α) (x : α) : (l ++ [x]).foldl f b = f (l.foldl f b) x := by simp
theorem fold_keeps {root : Bool} : ∀ (n : Nat) (ks : List Bs), ks.length = n → Inv root ks → ks.foldl (stepP root) [] = ks := by
  intro n
  induction n with
  | zero => intro ks h _; obtain rfl := List.eq_nil_of_length_eq_zero h; rfl
  | succ n ih =>
    intro ks h hi
    rcases List.eq_nil_or_concat ks with rfl | ⟨l, x, rfl⟩
    · simp at h
    · rw [List.concat_eq_append] at hi h ⊢
      rw [fold_snoc, ih l (by simpa using h) hi.init, step_keeps hi]
theorem fold_keeps' {root : Bool} {ks : List Bs} (hi : Inv root ks) : ks.foldl (stepP root) [] = ks := fold_keeps _ ks rfl hi
theorem join_nil_iff {root : Bool} {ks : List Bs} (h : Inv root ks) : Lib.join ks [47] = [] ↔ ks = [] := by
  cases ks with
  | nil => simp [Lib.join_nil]
  | cons x r =>
    obtain ⟨c, t, e, _⟩ := join_ne x r (h.part x (by simp)).1
    rw [e]; simp
theorem rooted_text {root : Bool} {ks : List Bs} (h : Inv root ks) : rooted (text root ks) = root := by
  unfold text
  cases root
  · rw [if_neg (by simp)]
    cases ks with
    | nil => rfl
    | cons x r =>
      obtain ⟨c, t, e, hc⟩ := join_ne x r (h.part x (by simp)).1
      rw [e, if_neg (by simp), rooted_cons]
      simpa using hc
  · rw [if_pos rfl, rooted_cons]; rfl
/-- The parts of a clean path. -/
def partsOf (root : Bool) (ks : List Bs) : List Bs := if root = false ∧ ks = [] then [[46]] else ks
theorem parts_text {root : Bool} {ks : List Bs} (h : Inv root ks) : parts (text root ks) = partsOf root ks := by
  unfold text partsOf
  cases root
  · rw [if_neg (by simp)]
    by_cases hk : ks = []
    · subst hk; rfl
    · rw [if_neg (fun e => hk ((join_nil_iff h).1 e)), if_neg (by simp [hk]), parts_join ks fun k hk => (h.part k hk).1]
  · rw [if_pos rfl, if_neg (by simp), parts_slash, parts_join ks fun k hk => (h.part k hk).1]
theorem fold_partsOf {root : Bool} {ks : List Bs} (h : Inv root ks) : (partsOf root ks).foldl (stepP root) [] = ks := by
  unfold partsOf
  split
  · rename_i e; rw [e.2]; simp [stepP]
  · exact fold_keeps' h
theorem clean_text {root : Bool} {ks : List Bs} (h : Inv root ks) : clean (text root ks) = text root ks := by
  unfold clean cleaned
  rw [rooted_text h, parts_text h, fold_partsOf h]
theorem clean_clean (s : Bs) : clean (clean s) = clean s := clean_text (cleaned_inv s _)
theorem rooted_clean (s : Bs) : rooted (clean s) = rooted s := rooted_text (cleaned_inv s _)
theorem clean_ne (s : Bs) : clean s ≠ [] := by
  unfold clean text
  split
  · simp
  · split
    · simp
    · assumption
theorem parts_clean (s : Bs) : parts (clean s) = partsOf (rooted s) (cleaned s (rooted s)) := parts_text (cleaned_inv s _)
theorem rooted_app {a : Bs} (h : a ≠ []) (b : Bs) : rooted (a ++ b) = rooted a := by
  cases a with
  | nil => exact absurd rfl h
  | cons x r => rw [List.cons_append, rooted_cons, rooted_cons]
theorem rooted_ne {a : Bs} (h : rooted a = true) : a ≠ [] := by rintro rfl; cases h
/-- Joining goes step by step. -/
theorem join_join {a b c : Bs} (ha : rooted a = true) (hb : rooted b = false) (hc : rooted c = false) : joinP (joinP a b) c = clean (a ++ 47 :: b ++ 47 :: c) := by
  have h1 : joinP a b = clean (a ++ 47 :: b) := by unfold joinP; rw [if_neg (by simp [rooted_ne ha, hb])]
  have hr : rooted (a ++ 47 :: b) = true := by rw [rooted_app (rooted_ne ha), ha]
  have hr2 : rooted (a ++ 47 :: b ++ 47 :: c) = true := by rw [rooted_app (by simp), hr]
  rw [h1]
  unfold joinP
  rw [if_neg (by simp [clean_ne, hc])]
  have e1 : rooted (clean (a ++ 47 :: b) ++ 47 :: c) = true := by rw [rooted_app (clean_ne _), rooted_clean, hr]
  have hp := parts_clean (a ++ 47 :: b)
  rw [hr] at hp
  unfold partsOf at hp
  rw [if_neg (by simp)] at hp
  show text (rooted _) (cleaned _ (rooted _)) = text (rooted _) (cleaned _ (rooted _))
  rw [e1, hr2]
  congr 1
  unfold cleaned
  rw [parts_app, hp, parts_app (a ++ 47 :: b) c, List.foldl_append, List.foldl_append, fold_keeps' (cleaned_inv _ _)]
  rfl

/-- All but the last part, and the last part. -/
def lastP (s : Bs) : Bs × Bs := if parts (clean s) = [] then (clean s, []) else (text (rooted (clean s)) (parts (clean s)).dropLast, (parts (clean s)).getLastD [])
theorem join_last {a : Bs} (ha : rooted a = true) : joinP (lastP a).1 (lastP a).2 = clean a ∧ ((lastP a).2 = [] → (lastP a).1 = [47]) := by
  have hp := parts_clean a
  have hi := cleaned_inv a (rooted a)
  have hC : clean a = text true (cleaned a true) := by unfold clean; rw [ha]
  rw [ha] at hp hi
  unfold partsOf at hp
  rw [if_neg (by simp)] at hp
  generalize cleaned a true = ks at hp hi hC
  unfold lastP
  rw [hp, rooted_clean, ha]
  rcases List.eq_nil_or_concat ks with rfl | ⟨l, x, rfl⟩
  · rw [if_pos rfl, hC]
    exact ⟨by decide, fun _ => by decide⟩
  · rw [List.concat_eq_append] at hi hC ⊢
    rw [if_neg (by simp)]
    have hx := hi.part x (by simp)
    have e1 : (l ++ [x]).dropLast = l := by simp
    have e2 : (l ++ [x]).getLastD [] = x := by simp [List.getLastD_eq_getLast?]
    rw [e1, e2]
    refine ⟨?_, fun e => absurd e hx.1.1⟩
    have hrx : rooted x = false := by
      have h1 := hx.1.1; have h2 := hx.1.2
      cases x with
      | nil => exact absurd rfl h1
      | cons c t => rw [rooted_cons]; simp only [beq_eq_false_iff_ne]; intro e; exact h2 (by simp [e])
    unfold joinP
    have htn : text true l ≠ [] := by unfold text; simp
    rw [if_neg (by simp [htn, hrx]), hC]
    unfold clean cleaned
    have hrt : rooted (text true l ++ 47 :: x) = true := by rw [rooted_app htn, rooted_text hi.init]
    have hpl : parts (text true l) = l := by rw [parts_text hi.init]; unfold partsOf; rw [if_neg (by simp)]
    rw [hrt, parts_app, hpl, parts_one x hx.1, fold_keeps' hi]
end Go.Proofs.YthbackkcamgidaaGreatDoor
