/- Paths as lists of parts: the plain mathematics (seat 04). (without what speaks of All) What the laws say of paths: plain. The document's Name (without Parts, Clean). A step of a directory has its names (out of NdTc). -/
import Derived.Test.YtlcoapignfmgcaaGreatDoorGh
import Derived.Lib.Split
import Derived.Lib.Join
import Derived.Lib.Strings
import Derived.Outline
import Derived.Test.YtlcoapignfmgcaaGreatDoorGg
namespace Go.Proofs.YtlcoapignfmgcaaGreatDoor
open Go.RowKit
set_option linter.unusedVariables false

/-- A text cut at every c. -/
def splitC (c : UInt8) : Bs → List Bs
  | [] => [[]]
  | x :: r => if x = c then [] :: splitC c r else (x :: (splitC c r).headD []) :: (splitC c r).tail
theorem splitC_ne (c : UInt8) (s : Bs) : splitC c s ≠ [] := by
  cases s with
  | nil => simp [splitC]
  | cons x r => unfold splitC; split <;> simp
theorem splitC_form (c : UInt8) (s : Bs) : ∃ h t, splitC c s = h :: t := by
  cases e : splitC c s with
  | nil => exact absurd e (splitC_ne c s)
  | cons h t => exact ⟨h, t, rfl⟩
theorem split_eq (c : UInt8) : ∀ s : Bs, Lib.split s [c] = splitC c s
  | [] => rfl
  | x :: r => by
    have ih := split_eq c r
    unfold Lib.split at ih ⊢
    by_cases hx : x = c
    · subst hx
      have hi : Lib.index (x :: r) [x] = ((0 : Nat) : Int) := by unfold Lib.index; simp [List.isPrefixOf]
      rw [Lib.count_hit (by simp) hi]
      rw [show 1 + Lib.count (List.drop (0 + [x].length) (x :: r)) [x] = Lib.count r [x] + 1 by simp [Nat.add_comm]]
      unfold Lib.splitK
      rw [if_neg (by rw [hi]; decide), hi]
      simp only [splitC, if_true]
      simpa using ih
    · have h0 : Lib.index (x :: r) [c] = if Lib.index r [c] == -1 then -1 else Lib.index r [c] + 1 := by
        rw [Lib.index]; simp [List.isPrefixOf, Ne.symm hx]
      rcases Lib.index_spec r [c] with ⟨h1, _⟩ | ⟨i, h1, h2, h3, _⟩
      · have hm : Lib.index (x :: r) [c] = -1 := by rw [h0, h1]; rfl
        rw [Lib.count_miss hm]
        rw [Lib.count_miss h1] at ih
        simp only [Lib.splitK] at ih ⊢
        rw [splitC, if_neg hx, ← ih]
        rfl
      · have hm : Lib.index (x :: r) [c] = ((i + 1 : Nat) : Int) := by
          rw [h0, h1, if_neg (by simp)]; omega
        rw [Lib.count_hit (by simp) hm]
        rw [Lib.count_hit (by simp) h1] at ih
        have e1 : List.drop (i + 1 + [c].length) (x :: r) = List.drop (i + [c].length) r := by simp
        rw [e1]
        generalize hk : Lib.count (List.drop (i + [c].length) r) [c] = k at ih ⊢
        rw [show 1 + k = k + 1 by omega] at ih ⊢
        unfold Lib.splitK at ih ⊢
        rw [if_neg (by rw [h1]; simp), h1] at ih
        rw [if_neg (by rw [hm]; simp; omega), hm]
        rw [splitC, if_neg hx, ← ih]
        simp
theorem splitC_app (c : UInt8) (a b : Bs) : splitC c (a ++ c :: b) = splitC c a ++ splitC c b := by
  induction a with
  | nil => simp [splitC]
  | cons x r ih =>
    rw [List.cons_append, splitC, splitC, ih]
    obtain ⟨h, t, e⟩ := splitC_form c r
    rw [e]
    split <;> simp
theorem splitC_no (c : UInt8) (a : Bs) (h : c ∉ a) : splitC c a = [a] := by
  induction a with
  | nil => rfl
  | cons x r ih =>
    have h1 : x ≠ c := fun e => h (by simp [e])
    rw [splitC, if_neg h1, ih (fun e => h (by simp [e]))]
    rfl
theorem splitC_mem (c : UInt8) (s : Bs) : ∀ k ∈ splitC c s, c ∉ k := by
  induction s with
  | nil => simp [splitC]
  | cons x r ih =>
    obtain ⟨h, t, e⟩ := splitC_form c r
    rw [splitC]
    rw [e] at ih ⊢
    split
    · intro k hk
      rcases List.mem_cons.1 hk with rfl | hk
      · simp
      · exact ih k hk
    · rename_i hx
      intro k hk
      rcases List.mem_cons.1 hk with rfl | hk
      · have := ih h (by simp)
        simp only [List.headD_cons, List.mem_cons, not_or]
        exact ⟨Ne.symm hx, this⟩
      · exact ih k (List.mem_cons_of_mem _ hk)

/-- The parts of a path. -/
def parts (s : Bs) : List Bs := (splitC 47 s).filter fun k => !k.isEmpty
/-- A part that may stand: not empty, no slash. -/
def Part (k : Bs) : Prop := k ≠ [] ∧ (47 : UInt8) ∉ k
theorem parts_mem (s : Bs) : ∀ k ∈ parts s, Part k := by
  intro k hk
  obtain ⟨h1, h2⟩ := List.mem_filter.1 hk
  exact ⟨by simpa using h2, splitC_mem 47 s k h1⟩
theorem parts_app (a b : Bs) : parts (a ++ 47 :: b) = parts a ++ parts b := by unfold parts; rw [splitC_app, List.filter_append]
theorem parts_slash (b : Bs) : parts (47 :: b) = parts b := parts_app [] b
theorem parts_one (k : Bs) (h : Part k) : parts k = [k] := by
  unfold parts
  rw [splitC_no 47 k h.2]
  have := h.1
  cases k with
  | nil => exact absurd rfl this
  | cons c t => rfl
theorem parts_nil : parts [] = [] := rfl

def rooted (s : Bs) : Bool := Lib.hasPrefix s [47]
theorem rooted_nil : rooted [] = false := rfl
theorem rooted_cons (x : UInt8) (r : Bs) : rooted (x :: r) = (x == 47) := by
  unfold rooted Lib.hasPrefix
  by_cases h : x = 47
  · subst h; simp [List.isPrefixOf]
  · have h' : ¬ 47 = x := fun e => h e.symm
    rw [List.isPrefixOf, beq_eq_false_iff_ne.2 h, beq_eq_false_iff_ne.2 h', Bool.false_and]
def stepP (root : Bool) (kept : List Bs) (part : Bs) : List Bs :=
  if part = [46] then kept else if part ≠ [46, 46] then kept ++ [part] else if kept ≠ [] ∧ kept.getLast? ≠ some [46, 46] then kept.dropLast else if root = true then kept else kept ++ [part]
def cleaned (s : Bs) (root : Bool) : List Bs := (parts s).foldl (stepP root) []
def text (root : Bool) (ks : List Bs) : Bs := if root = true then 47 :: Lib.join ks [47] else if Lib.join ks [47] = [] then [46] else Lib.join ks [47]
def clean (s : Bs) : Bs := text (rooted s) (cleaned s (rooted s))
def joinP (a b : Bs) : Bs := if a = [] ∨ rooted b = true then clean b else clean (a ++ 47 :: b)

theorem join_two (x y : Bs) (r : List Bs) : Lib.join (x :: y :: r) [47] = x ++ 47 :: Lib.join (y :: r) [47] := by
  rw [Lib.join_cons, Lib.join_cons]
  simp [Lib.joinTail]
theorem parts_join (ks : List Bs) (h : ∀ k ∈ ks, Part k) : parts (Lib.join ks [47]) = ks := by
  induction ks with
  | nil => rfl
  | cons x r ih =>
    cases r with
    | nil => rw [Lib.join_one, parts_one x (h x (by simp))]
    | cons y r =>
      rw [join_two, parts_app, parts_one x (h x (by simp)), ih (fun k hk => h k (by simp [hk]))]
      rfl
theorem join_ne (x : Bs) (r : List Bs) (h : Part x) : ∃ c t, Lib.join (x :: r) [47] = c :: t ∧ c ≠ 47 := by
  rw [Lib.join_cons]
  obtain ⟨h1, h2⟩ := h
  cases x with
  | nil => exact absurd rfl h1
  | cons c t => exact ⟨c, t ++ Lib.joinTail [47] r, rfl, fun e => h2 (by simp [e])⟩
/-- What is left of a path: parts, none of them a dot, two dots only ahead, and only where there is no root. -/
def Inv (root : Bool) (ks : List Bs) : Prop := ∃ m rest, ks = List.replicate m [46, 46] ++ rest ∧ (∀ k ∈ rest, Part k ∧ k ≠ [46] ∧ k ≠ [46, 46]) ∧ (root = true → m = 0)
theorem Inv.nil (root : Bool) : Inv root [] := ⟨0, [], rfl, by simp, fun _ => rfl⟩
theorem dots_part : Part [46, 46] := ⟨by simp, by decide⟩
theorem Inv.part {root : Bool} {ks : List Bs} (h : Inv root ks) : ∀ k ∈ ks, Part k ∧ k ≠ [46] := by
  obtain ⟨m, rest, rfl, h1, _⟩ := h
  intro k hk
  rcases List.mem_append.1 hk with hk | hk
  · obtain rfl := List.eq_of_mem_replicate hk
    exact ⟨dots_part, by decide⟩
  · exact ⟨(h1 k hk).1, (h1 k hk).2.1⟩
theorem Inv.step {root : Bool} {ks : List Bs} (h : Inv root ks) (k : Bs) (hk : Part k) : Inv root (stepP root ks k) := by
  obtain ⟨m, rest, rfl, h1, h2⟩ := h
  unfold stepP
  by_cases e1 : k = [46]
  · rw [if_pos e1]; exact ⟨m, rest, rfl, h1, h2⟩
  · rw [if_neg e1]
    by_cases e2 : k = [46, 46]
    · rw [if_neg (by simp [e2])]
      rcases List.eq_nil_or_concat rest with rfl | ⟨r', x, rfl⟩
      · rw [List.append_nil]
        have hno : ¬ (List.replicate m ([46, 46] : Bs) ≠ [] ∧ (List.replicate m ([46, 46] : Bs)).getLast? ≠ some [46, 46]) := by
          rintro ⟨g1, g2⟩
          cases m with
          | zero => simp at g1
          | succ m => exact g2 (by simp [List.getLast?_replicate])
        rw [if_neg hno]
        cases root
        · rw [if_neg (by simp), e2]
          exact ⟨m + 1, [], by rw [List.append_nil, List.replicate_succ'], by simp, fun g => by cases g⟩
        · rw [if_pos rfl]
          exact ⟨m, [], by rw [List.append_nil], by simp, h2⟩
      · have hx := h1 x (by simp)
        rw [if_pos]
        · refine ⟨m, r', ?_, fun k hk => h1 k (by simp [hk]), h2⟩
          rw [List.concat_eq_append, ← List.append_assoc, List.dropLast_concat]
        · refine ⟨by simp, ?_⟩
          rw [List.concat_eq_append, ← List.append_assoc, List.getLast?_concat]
          intro e; injection e with e; exact hx.2.2 e
    · rw [if_pos e2]
      refine ⟨m, rest ++ [k], by simp, ?_, h2⟩
      intro k' hk'
      rcases List.mem_append.1 hk' with g | g
      · exact h1 k' g
      · obtain rfl := List.mem_singleton.1 g
        exact ⟨hk, e1, e2⟩
theorem Inv.fold {root : Bool} (ps : List Bs) : ∀ {ks : List Bs}, Inv root ks → (∀ k ∈ ps, Part k) → Inv root (ps.foldl (stepP root) ks) := by
  induction ps with
  | nil => intro ks h _; exact h
  | cons p r ih => intro ks h hp; exact ih (h.step p (hp p (by simp))) (fun k hk => hp k (by simp [hk]))
theorem cleaned_inv (s : Bs) (root : Bool) : Inv root (cleaned s root) := Inv.fold _ (Inv.nil root) (parts_mem s)
/-- What may stand stays as it is. -/
theorem step_keeps {root : Bool} {ks : List Bs} {k : Bs} (h : Inv root (ks ++ [k])) : stepP root ks k = ks ++ [k] := by
  have hp := h.part k (by simp)
  obtain ⟨m, rest, e, h1, h2⟩ := h
  unfold stepP
  rw [if_neg hp.2]
  by_cases e2 : k = [46, 46]
  · rw [if_neg (by simp [e2])]
    rcases List.eq_nil_or_concat rest with rfl | ⟨r', x, rfl⟩
    · rw [List.append_nil] at e
      cases m with
      | zero => simp at e
      | succ m =>
        rw [List.replicate_succ'] at e
        obtain ⟨e3, _⟩ := List.append_inj' e rfl
        have hr : root = false := by
          cases root
          · rfl
          · exact absurd (h2 rfl) (by omega)
        subst hr
        rw [if_neg, if_neg (by simp)]
        rintro ⟨g1, g2⟩
        rw [e3] at g1 g2
        cases m with
        | zero => simp at g1
        | succ m => exact g2 (by simp [List.getLast?_replicate])
    · rw [List.concat_eq_append, ← List.append_assoc] at e
      obtain ⟨_, e3⟩ := List.append_inj' e rfl
      injection e3 with e3
      exact absurd (e3 ▸ e2) (h1 x (by simp)).2.2
  · rw [if_pos e2]
theorem Inv.init {root : Bool} {ks : List Bs} {k : Bs} (h : Inv root (ks ++ [k])) : Inv root ks := by
  obtain ⟨m, rest, e, h1, h2⟩ := h
  rcases List.eq_nil_or_concat rest with rfl | ⟨r', x, rfl⟩
  · rw [List.append_nil] at e
    cases m with
    | zero => simp at e
    | succ m =>
      rw [List.replicate_succ'] at e
      obtain ⟨e3, _⟩ := List.append_inj' e rfl
      exact ⟨m, [], by simpa using e3, by simp, fun g => by have := h2 g; omega⟩
  · rw [List.concat_eq_append, ← List.append_assoc] at e
    obtain ⟨e3, _⟩ := List.append_inj' e rfl
    exact ⟨m, r', e3, fun k hk => h1 k (by simp [hk]), h2⟩
theorem fold_snoc {α β : Type} (f : β → α → β) (b : β) (l : List α) (x : α) : (l ++ [x]).foldl f b = f (l.foldl f b) x := by simp
theorem fold_keeps {root : Bool} : ∀ (n : Nat) (ks : List Bs), ks.length = n → Inv root ks → ks.foldl (stepP root) [] = ks := by
  intro n
  induction n with
  | zero => intro ks h _; obtain rfl := List.eq_nil_of_length_eq_zero h; rfl
  | succ n ih =>
    intro ks h hi
    rcases List.eq_nil_or_concat ks with rfl | ⟨l, x, rfl⟩
    · simp at h
    · rw [List.concat_eq_append] at hi h ⊢
      rw [fold_snoc, ih l (by simpa using h) hi.init, step_keeps hi]
theorem fold_keeps' {root : Bool} {ks : List Bs} (hi : Inv root ks) : ks.foldl (stepP root) [] = ks := fold_keeps _ ks rfl hi
theorem join_nil_iff {root : Bool} {ks : List Bs} (h : Inv root ks) : Lib.join ks [47] = [] ↔ ks = [] := by
  cases ks with
  | nil => simp [Lib.join_nil]
  | cons x r =>
    obtain ⟨c, t, e, _⟩ := join_ne x r (h.part x (by simp)).1
    rw [e]; simp
theorem rooted_text {root : Bool} {ks : List Bs} (h : Inv root ks) : rooted (text root ks) = root := by
  unfold text
  cases root
  · rw [if_neg (by simp)]
    cases ks with
    | nil => rfl
    | cons x r =>
      obtain ⟨c, t, e, hc⟩ := join_ne x r (h.part x (by simp)).1
      rw [e, if_neg (by simp), rooted_cons]
      simpa using hc
  · rw [if_pos rfl, rooted_cons]; rfl
/-- The parts of a clean path. -/
def partsOf (root : Bool) (ks : List Bs) : List Bs := if root = false ∧ ks = [] then [[46]] else ks
theorem parts_text {root : Bool} {ks : List Bs} (h : Inv root ks) : parts (text root ks) = partsOf root ks := by
  unfold text partsOf
  cases root
  · rw [if_neg (by simp)]
    by_cases hk : ks = []
    · subst hk; rfl
    · rw [if_neg (fun e => hk ((join_nil_iff h).1 e)), if_neg (by simp [hk]), parts_join ks fun k hk => (h.part k hk).1]
  · rw [if_pos rfl, if_neg (by simp), parts_slash, parts_join ks fun k hk => (h.part k hk).1]
theorem fold_partsOf {root : Bool} {ks : List Bs} (h : Inv root ks) : (partsOf root ks).foldl (stepP root) [] = ks := by
  unfold partsOf
  split
  · rename_i e; rw [e.2]; simp [stepP]
  · exact fold_keeps' h
theorem clean_text {root : Bool} {ks : List Bs} (h : Inv root ks) : clean (text root ks) = text root ks := by
  unfold clean cleaned
  rw [rooted_text h, parts_text h, fold_partsOf h]
theorem clean_clean (s : Bs) : clean (clean s) = clean s := clean_text (cleaned_inv s _)
theorem rooted_clean (s : Bs) : rooted (clean s) = rooted s := rooted_text (cleaned_inv s _)
theorem clean_ne (s : Bs) : clean s ≠ [] := by
  unfold clean text
  split
  · simp
  · split
    · simp
    · assumption
theorem parts_clean (s : Bs) : parts (clean s) = partsOf (rooted s) (cleaned s (rooted s)) := parts_text (cleaned_inv s _)
theorem rooted_app {a : Bs} (h : a ≠ []) (b : Bs) : rooted (a ++ b) = rooted a := by
  cases a with
  | nil => exact absurd rfl h
  | cons x r => rw [List.cons_append, rooted_cons, rooted_cons]
theorem rooted_ne {a : Bs} (h : rooted a = true) : a ≠ [] := by rintro rfl; cases h
/-- Joining goes step by step. -/
theorem join_join {a b c : Bs} (ha : rooted a = true) (hb : rooted b = false) (hc : rooted c = false) : joinP (joinP a b) c = clean (a ++ 47 :: b ++ 47 :: c) := by
  have h1 : joinP a b = clean (a ++ 47 :: b) := by unfold joinP; rw [if_neg (by simp [rooted_ne ha, hb])]
  have hr : rooted (a ++ 47 :: b) = true := by rw [rooted_app (rooted_ne ha), ha]
  have hr2 : rooted (a ++ 47 :: b ++ 47 :: c) = true := by rw [rooted_app (by simp), hr]
  rw [h1]
  unfold joinP
  rw [if_neg (by simp [clean_ne, hc])]
  have e1 : rooted (clean (a ++ 47 :: b) ++ 47 :: c) = true := by rw [rooted_app (clean_ne _), rooted_clean, hr]
  have hp := parts_clean (a ++ 47 :: b)
  rw [hr] at hp
  unfold partsOf at hp
  rw [if_neg (by simp)] at hp
  show text (rooted _) (cleaned _ (rooted _)) = text (rooted _) (cleaned _ (rooted _))
  rw [e1, hr2]
  congr 1
  unfold cleaned
  rw [parts_app, hp, parts_app (a ++ 47 :: b) c, List.foldl_append, List.foldl_append, fold_keeps' (cleaned_inv _ _)]
  rfl

/-- All but the last part, and the last part. -/
def lastP (s : Bs) : Bs × Bs := if parts (clean s) = [] then (clean s, []) else (text (rooted (clean s)) (parts (clean s)).dropLast, (parts (clean s)).getLastD [])
theorem join_last {a : Bs} (ha : rooted a = true) : joinP (lastP a).1 (lastP a).2 = clean a ∧ ((lastP a).2 = [] → (lastP a).1 = [47]) := by
  have hp := parts_clean a
  have hi := cleaned_inv a (rooted a)
  have hC : clean a = text true (cleaned a true) := by unfold clean; rw [ha]
  rw [ha] at hp hi
  unfold partsOf at hp
  rw [if_neg (by simp)] at hp
  generalize cleaned a true = ks at hp hi hC
  unfold lastP
  rw [hp, rooted_clean, ha]
  rcases List.eq_nil_or_concat ks with rfl | ⟨l, x, rfl⟩
  · rw [if_pos rfl, hC]
    exact ⟨by decide, fun _ => by decide⟩
  · rw [List.concat_eq_append] at hi hC ⊢
    rw [if_neg (by simp)]
    have hx := hi.part x (by simp)
    have e1 : (l ++ [x]).dropLast = l := by simp
    have e2 : (l ++ [x]).getLastD [] = x := by simp [List.getLastD_eq_getLast?]
    rw [e1, e2]
    refine ⟨?_, fun e => absurd e hx.1.1⟩
    have hrx : rooted x = false := by
      have h1 := hx.1.1; have h2 := hx.1.2
      cases x with
      | nil => exact absurd rfl h1
      | cons c t => rw [rooted_cons]; simp only [beq_eq_false_iff_ne]; intro e; exact h2 (by simp [e])
    unfold joinP
    have htn : text true l ≠ [] := by unfold text; simp
    rw [if_neg (by simp [htn, hrx]), hC]
    unfold clean cleaned
    have hrt : rooted (text true l ++ 47 :: x) = true := by rw [rooted_app htn, rooted_text hi.init]
    have hpl : parts (text true l) = l := by rw [parts_text hi.init]; unfold partsOf; rw [if_neg (by simp)]
    rw [hrt, parts_app, hpl, parts_one x hx.1, fold_keeps' hi]
end Go.Proofs.YtlcoapignfmgcaaGreatDoor
namespace Go.Proofs.YtlcoapignfmgcaaGreatDoor
set_option linter.unusedVariables false
theorem namesFrom_ok (c : Int) : ∀ (t : List NM) (p : Option (List UInt8)), namesFrom c p t = true → ∀ y ∈ t, nameB y.name = true
  | [], _, _, y, hy => by cases hy
  | x :: t, p, h, y, hy => by
    simp only [namesFrom, Bool.and_eq_true] at h
    rcases List.mem_cons.1 hy with rfl | hy
    · exact h.1.1.1
    · exact namesFrom_ok c t _ h.2 y hy
theorem nodeB_dir {n : ND} {c : Int} (h : nodeB n c = true) : (n.kind ≠ 2 → n.names = []) ∧ ∀ y ∈ n.names, nameB y.name = true := by
  unfold nodeB at h
  simp only [Bool.and_eq_true] at h
  obtain ⟨-, h⟩ := h
  split at h
  · rename_i hk
    simp only [Bool.and_eq_true, List.isEmpty_iff] at h
    exact ⟨fun _ => h.1.2, fun y hy => by rw [h.1.2] at hy; cases hy⟩
  · split at h
    · rename_i hk
      simp only [Bool.and_eq_true] at h
      exact ⟨fun hn => absurd hk hn, namesFrom_ok c _ _ h.1.1⟩
    · split at h
      · simp only [Bool.and_eq_true, List.isEmpty_iff] at h
        exact ⟨fun _ => h.2, fun y hy => by rw [h.2] at hy; cases hy⟩
      · cases h
theorem nameB_ok {s : List UInt8} (h : nameB s = true) : Part s ∧ s ≠ [46] ∧ s ≠ [46, 46] := by
  unfold nameB at h
  simp only [Bool.and_eq_true, Bool.not_eq_true', Bool.or_eq_false_iff] at h
  obtain ⟨⟨⟨⟨⟨h1, h2⟩, h3⟩, h4⟩, h5⟩, h6⟩ := h
  refine ⟨⟨fun e => (by rw [e] at h1; cases h1), fun hm => ?_⟩, fun e => (by rw [e] at h2; simp at h2), fun e => (by rw [e] at h3; simp at h3)⟩
  have := List.contains_iff_mem.2 hm
  rw [this] at h4; cases h4
theorem wk_ok {l : List ND} (hl : ∀ n ∈ l, nodeB n l.length = true) : ∀ (k : Nat) (us : List (List UInt8)) (d : Int), (∀ z ∈ us, nameB z = true) → ∀ x ∈ wk l k us d, ∀ z ∈ pth x, nameB z = true
  | 0, us, d, hu, x, hx => by cases hx
  | k + 1, us, d, hu, x, hx => by
    rw [wk_succ] at hx
    obtain ⟨y, hy, hxy⟩ := List.mem_flatMap.1 hx
    have hyn : nameB y.name = true := (nodeB_dir (hl _ (ndAt_mem hy).2)).2 y hy
    have hu2 : ∀ z ∈ us ++ [y.name], nameB z = true := fun z hz => by
      rcases List.mem_append.1 hz with hz | hz
      · exact hu z hz
      · rw [List.mem_singleton.1 hz]; exact hyn
    unfold wkN at hxy
    rcases List.mem_cons.1 hxy with rfl | hxy
    · exact hu2
    · split at hxy
      · exact wk_ok hl k _ _ hu2 x hxy
      · cases hxy
theorem path_text (x : ST) : pathP x = text true (pth x) := by
  unfold pathP text pth
  rw [if_pos rfl]
theorem inv_of {ks : List (List UInt8)} (h : ∀ z ∈ ks, nameB z = true) : Inv true ks := ⟨0, ks, rfl, fun k hk => ⟨(nameB_ok (h k hk)).1, (nameB_ok (h k hk)).2.1, (nameB_ok (h k hk)).2.2⟩, fun _ => rfl⟩
theorem path_parts {x : ST} (h : ∀ z ∈ pth x, nameB z = true) : parts (pathP x) = pth x := by
  rw [path_text, parts_text (inv_of h)]
  unfold partsOf
  rw [if_neg (by simp)]
theorem path_clean {x : ST} (h : ∀ z ∈ pth x, nameB z = true) : clean (pathP x) = pathP x := by
  rw [path_text, clean_text (inv_of h)]
theorem pth_ne (x : ST) : pth x ≠ [] := by unfold pth; simp
/-- The walk of a checked file system. -/
def WK (l : List ND) : List ST := wk l l.length [] 0
theorem wk_ok' {l : List ND} (h : checkB l = true) : ∀ x ∈ WK l, ∀ z ∈ pth x, nameB z = true := wk_ok (checkB_facts h).2.2.1 _ _ _ (fun z hz => by cases hz)
theorem links_at {l : List ND} (h : checkB l = true) {i : Nat} (hi : i < l.length) : linkB l i = true := List.all_eq_true.1 (checkB_facts h).2.2.2.1 i (List.mem_range.2 hi)
theorem root_dir {l : List ND} (h : checkB l = true) : (ndAt l 0).kind = 2 ∧ (ndAt l 0).links = 1 ∧ cnt l 0 = 0 := by
  have := links_at h (i := 0) (by have := (checkB_facts h).1; omega)
  unfold linkB at this
  rw [if_pos rfl] at this
  simp only [Bool.and_eq_true, decide_eq_true_eq] at this
  exact ⟨this.1.1, this.1.2, this.2⟩
theorem links_cnt {l : List ND} (h : checkB l = true) {i : Nat} (hi : i < l.length) (h0 : i ≠ 0) : (ndAt l i).links = (cnt l i : Int) ∧ ((ndAt l i).kind = 2 → (ndAt l i).links = 0 → (ndAt l i).names = []) := by
  have := links_at h hi
  unfold linkB at this
  rw [if_neg h0] at this
  simp only [Bool.and_eq_true, decide_eq_true_eq, Bool.not_eq_true', Bool.and_eq_false_iff, Bool.or_eq_false_iff, decide_eq_false_iff_not] at this
  refine ⟨this.1, fun hk hl => ?_⟩
  rcases this.2 with h2 | h2
  · exact absurd hk h2
  · rcases h2.2 with h3 | h3
    · exact absurd hl h3
    · simpa using h3
theorem node_ok {l : List ND} (h : checkB l = true) {i : Nat} (hi : i < l.length) : nodeB (ndAt l i) l.length = true := by
  refine (checkB_facts h).2.2.1 _ ?_
  rw [ndAt_nat, List.getD_eq_getElem?_getD, List.getElem?_eq_getElem hi]
  exact List.getElem_mem hi
theorem allI_map (l : List ND) : (allI l).map (ndAt l) = l := by
  unfold allI
  rw [List.map_map]
  apply List.ext_getElem
  · simp
  · intro i h1 h2
    simp only [List.getElem_map, List.getElem_range, Function.comp]
    rw [ndAt_nat, List.getD_eq_getElem?_getD, List.getElem?_eq_getElem h2]
    rfl
theorem allI_length (l : List ND) : (allI l).length = l.length := by unfold allI; simp
def namedI (l : List ND) (i : Int) : Bool := namedB (ndAt l i)
theorem named_count (l : List ND) : named l = ((allI l).filter (namedI l)).length := by
  unfold named
  rw [← List.countP_eq_length_filter]
  conv => lhs; rw [← allI_map l]
  rw [List.countP_map]
  rfl
theorem dd_length (l : List ND) : (DD l l.length).length = reached l := by
  unfold DD reached dirsOf
  rw [List.length_cons, List.length_map, List.countP_eq_length_filter]
  omega
theorem cnt_pos {l : List ND} {x : ST} {k : Nat} {us : List (List UInt8)} {d : Int} (hx : x ∈ wk l k us d) : 1 ≤ cnt l x.node := by
  obtain ⟨y, hy, _, e⟩ := wk_name hx
  exact cnt_one (ndAt_mem hy).1 hy e
/-- Each directory with a name is one that the walk goes into. -/
theorem named_in {l : List ND} (h : checkB l = true) : ∀ i ∈ allI l, namedI l i = true → i ∈ DD l l.length := by
  have h1 := one_of h
  have hn := namesOk_of (checkB_facts h).2.2.1
  have hp : 0 < l.length := (checkB_facts h).1
  have hd := dd_nodup h1 hn l.length
  have hsub : ∀ x ∈ DD l l.length, x ∈ (allI l).filter (namedI l) := fun x hx => by
    refine List.mem_filter.2 ⟨allI_mem.2 (dd_in h1 hp _ x hx), ?_⟩
    unfold DD at hx
    unfold namedI namedB
    rcases List.mem_cons.1 hx with rfl | hx
    · have := root_dir h
      rw [this.1, this.2.1]; rfl
    · unfold dirsOf at hx
      obtain ⟨s, hs, e⟩ := List.mem_map.1 hx
      obtain ⟨hs, hsd⟩ := List.mem_filter.1 hs
      have hin := h1.node_in hs
      have hz := h1.no_root hs
      obtain ⟨m, hm⟩ : ∃ m : Nat, s.node = (m : Int) := ⟨s.node.toNat, by omega⟩
      have hl := (links_cnt h (i := m) (by omega) (by omega)).1
      have hc := cnt_pos hs
      rw [hm] at hc
      unfold isDir at hsd
      rw [← e, hsd, hm, hl]
      simp
      omega
  have hle : (DD l l.length).length ≤ l.length := by
    obtain ⟨R', hR⟩ := subset_perm _ (allI l) hd (fun x hx => allI_mem.2 (dd_in h1 hp _ x hx))
    have := hR.length_eq
    rw [List.length_append, allI_length] at this
    omega
  have h256 := (checkB_facts h).2.1
  have ht := (checkB_facts h).2.2.2.2.1
  unfold treeB at ht
  rw [decide_eq_true_eq] at ht
  have hrl : reached l ≤ 256 := by rw [← dd_length]; omega
  have hw : IntKind.i64.wrap (reached l : Int) = (reached l : Int) := by simp [IntKind.wrap, IntKind.bits, IntKind.signed]; omega
  rw [hw] at ht
  have hrn : (DD l l.length).length = ((allI l).filter (namedI l)).length := by rw [dd_length, ← named_count]; omega
  obtain ⟨R', hR⟩ := subset_perm _ _ hd hsub
  have hl := hR.length_eq
  rw [List.length_append] at hl
  have hnil : R' = [] := List.eq_nil_of_length_eq_zero (by omega)
  subst hnil
  rw [List.append_nil] at hR
  exact fun i hi hni => hR.mem_iff.1 (List.mem_filter.2 ⟨hi, hni⟩)
theorem names_out {l : List ND} (h : checkB l = true) {i : Int} (hi : i ∈ allI l) (hn : i ∉ DD l l.length) : (ndAt l i).names = [] := by
  obtain ⟨a, b⟩ := allI_mem.1 hi
  obtain ⟨m, rfl⟩ : ∃ m : Nat, i = (m : Int) := ⟨i.toNat, by omega⟩
  by_cases hk : (ndAt l (m : Int)).kind = 2
  · by_cases h0 : m = 0
    · subst h0
      exact absurd (List.mem_cons_self ..) hn
    · obtain ⟨h1, h2⟩ := links_cnt h (i := m) (by omega) h0
      refine h2 hk ?_
      have : ¬ namedI l (m : Int) = true := fun hh => hn (named_in h _ hi hh)
      unfold namedI namedB at this
      rw [hk] at this
      simp at this
      omega
  · exact (nodeB_dir (node_ok h (i := m) (by omega))).1 hk
/-- As many steps as names. -/
theorem wk_size {l : List ND} (h : checkB l = true) : (WK l).length = (allNames l).length := by
  have h1 := one_of h
  have hn := namesOk_of (checkB_facts h).2.2.1
  have hp : 0 < l.length := (checkB_facts h).1
  have hdn := dd_nodup h1 hn l.length
  unfold WK
  rw [wk_len l.length [] 0 (checkB_facts h).2.2.2.2.2.2, allNames_length, ← sum_all]
  obtain ⟨R', hR⟩ := subset_perm (DD l l.length) (allI l) hdn (fun x hx => allI_mem.2 (dd_in h1 hp _ x hx))
  have h1 := (hR.map fun d => (ndAt l d).names.length).sum_nat
  rw [h1, List.map_append, List.sum_append]
  have hz : (R'.map fun d => (ndAt l d).names.length).sum = 0 := by
    have hnd := (hR.nodup_iff).1 (allI_nodup l)
    have hd2 := (List.nodup_append.1 hnd).2.2
    have : ∀ d ∈ R', (ndAt l d).names.length = 0 := fun d hd => by
      rw [names_out h (hR.mem_iff.2 (List.mem_append_right _ hd)) (fun hx => hd2 d hx d hd rfl)]; rfl
    clear hR hnd hd2 h1
    induction R' with
    | nil => rfl
    | cons d t ih =>
      rw [List.map_cons, List.sum_cons, this d (List.mem_cons_self ..), ih (fun e he => this e (List.mem_cons_of_mem _ he))]
  rw [hz]
  unfold DD sumN
  simp only [List.map_cons, List.sum_cons]
  omega
end Go.Proofs.YtlcoapignfmgcaaGreatDoor
namespace Go.Proofs.YtlcoapignfmgcaaGreatDoor
open Go.RowKit
set_option linter.unusedVariables false
theorem toNat47 (x : UInt8) : ((x.toNat : Int) == 47) = (x == 47) := by
  rw [Bool.eq_iff_iff, beq_iff_eq, beq_iff_eq]
  constructor
  · intro h; apply UInt8.toNat_inj.1; have : x.toNat = 47 := by omega
    rw [this]; rfl
  · rintro rfl; rfl
theorem ix_l (l : Bs) (i : Nat) (c : UInt8) (h : l[i]? = some c) (W : World) : (Instr.index 9 (.string ⟨l.toArray⟩) (.int .i64 (i : Int))).run Tryz.prog W = .ok (.int .u8 (c.toNat : Int)) W := by
  obtain ⟨h1, h2⟩ := List.getElem?_eq_some_iff.1 h
  rw [run_index_string (P := Tryz.prog) W 9 _ .i64 (i : Int) Tryz.underlying9, dif_pos ⟨by omega, by show (i : Int) < ((l.length : Nat) : Int); omega⟩]
  simp only [Int.toNat_natCast]
  rw [← h2]
  rfl
theorem u8_eq (x c : UInt8) : ((x.toNat : Int) == (c.toNat : Int)) = (x == c) := by
  rw [Bool.eq_iff_iff, beq_iff_eq, beq_iff_eq]
  exact ⟨fun h => UInt8.toNat_inj.1 (by omega), fun h => by rw [h]⟩
set_option maxRecDepth 100000 in
set_option maxHeartbeats 1000000 in
theorem rhas_any (l : Bs) (c : UInt8) (w : World) (hl : l.length ≤ 1000000) : Calls Tryz.prog 61 #[.string ⟨l.toArray⟩, .int .u8 (c.toNat : Int)] w fun e w' => e = .returned (.bool (hasL l c)) ∧ w = w' := by
  go_enter Tryz.func61, Tryz.ntmps61
  go_wp2_with fail
  go_loop [5] (fun u5 => ∃ i : Nat, i ≤ l.length ∧ u5 = .int .i64 i ∧ ∀ (j : Nat) x, j < i → l[j]? = some x → x ≠ c) (fun u5 => l.length - (intOf u5).toNat)
  case atStart => exact ⟨0, Nat.zero_le _, rfl, fun j b h => absurd h (by omega)⟩
  case round =>
    obtain ⟨i, hi, rfl, hcl⟩ := hrel
    have HCL := hide hcl
    clear hcl
    by_cases hlt : i < l.length
    · obtain ⟨x, hx⟩ : ∃ x, l[i]? = some x := ⟨_, List.getElem?_eq_getElem hlt⟩
      have hix := ix_l l i x hx
      have HX := hide hx
      by_cases hxc : x = c
      · have hz : ((x.toNat : Int) == (c.toNat : Int)) = true := by rw [u8_eq, hxc]; simp
        have HR : Hid (hasL l c = true) := hide (by unfold hasL; rw [List.contains_iff_mem, ← hxc]; exact List.mem_of_getElem? hx)
        clear hx hxc
        go_wp2_with fail
        go_ret
        exact ⟨ret_bool HR.out.symm, rfl⟩
      · have hz : ((x.toNat : Int) == (c.toNat : Int)) = false := by rw [u8_eq]; exact beq_eq_false_iff_ne.2 hxc
        have HXC := hide hxc
        clear hx hxc
        go_wp2_with fail
        go_round
        case rel =>
          refine ⟨i + 1, by omega, by go_num, fun j y h1 hy => ?_⟩
          rcases Nat.lt_or_ge j i with h2 | h2
          · exact HCL.out j y h2 hy
          · obtain rfl : j = i := by omega
            have h3 := HX.out
            rw [hy] at h3
            injection h3 with h3
            subst h3
            exact HXC.out
        case measure => simp [intOf]; omega
    · obtain rfl : i = l.length := by omega
      have HR : Hid (hasL l c = false) := hide (by
        unfold hasL
        rw [Bool.eq_false_iff]
        intro h
        rw [List.contains_iff_mem] at h
        obtain ⟨j, hj⟩ := List.getElem?_of_mem h
        obtain ⟨hjl, _⟩ := List.getElem?_eq_some_iff.1 hj
        exact HCL.out j c hjl hj rfl)
      go_wp2_with fail
      go_ret
      exact ⟨ret_bool HR.out.symm, rfl⟩
set_option maxRecDepth 100000 in
set_option maxHeartbeats 1000000 in
theorem rname_any (l : Bs) (w : World) (hl : l.length ≤ 1000000) : Calls Tryz.prog 37 #[.string ⟨l.toArray⟩] w fun e w' => e = .returned (.int .i64 (nameC l)) ∧ w = w' := by
  have H1 := hide (fun V => rhas_any l 47 V hl)
  have H0 := hide (fun V => rhas_any l 0 V hl)
  by_cases e0 : l = []
  · subst e0
    go_enter Tryz.func37, Tryz.ntmps37
    go_wp2
    go_ret
    exact ⟨rfl, rfl⟩
  by_cases e1 : l = [46]
  · subst e1
    go_enter Tryz.func37, Tryz.ntmps37
    go_wp2
    go_ret
    exact ⟨rfl, rfl⟩
  by_cases e2 : l = [46, 46]
  · subst e2
    go_enter Tryz.func37, Tryz.ntmps37
    go_wp2
    go_ret
    exact ⟨rfl, rfl⟩
  have t0 : l.isEmpty = false := by cases l with
    | nil => exact absurd rfl e0
    | cons x t => rfl
  have t1 : (l == [46]) = false := beq_eq_false_iff_ne.2 e1
  have t2 : (l == [46, 46]) = false := beq_eq_false_iff_ne.2 e2
  have HE : Hid (nameC l = if hasL l 47 = true ∨ hasL l 0 = true then 32 else if 32 < l.length then 31 else 0) := hide (by unfold nameC; simp only [e0, e1, e2, false_or])
  clear e0 e1 e2
  obtain ⟨b1, hb1⟩ : ∃ b, hasL l 47 = b := ⟨_, rfl⟩
  obtain ⟨b0, hb0⟩ : ∃ b, hasL l 0 = b := ⟨_, rfl⟩
  rw [hb1] at H1 HE
  rw [hb0] at H0 HE
  clear hb1 hb0
  go_enter Tryz.func37, Tryz.ntmps37
  go_wp2_with fail
  refine (H1.out _).mono ?_
  rintro e w1 ⟨rfl, rfl⟩
  cases b1 with
  | true =>
    go_wp2_with fail
    go_ret
    exact ⟨ret_int (by rw [HE.out]; simp), rfl⟩
  | false =>
    go_wp2_with fail
    refine (H0.out _).mono ?_
    rintro e w1 ⟨rfl, rfl⟩
    cases b0 with
    | true =>
      go_wp2_with fail
      go_ret
      exact ⟨ret_int (by rw [HE.out]; simp), rfl⟩
    | false =>
      by_cases h32 : 32 < l.length
      · have h32' : (32 : Int) < (l.length : Int) := by omega
        go_wp2_with fail
        go_ret
        exact ⟨ret_int (by rw [HE.out]; simp [h32]), rfl⟩
      · have h32' : ¬ (32 : Int) < (l.length : Int) := by omega
        go_wp2_with fail
        go_ret
        exact ⟨ret_int (by rw [HE.out]; simp [h32]), rfl⟩
end Go.Proofs.YtlcoapignfmgcaaGreatDoor
namespace Go.Proofs.YtlcoapignfmgcaaGreatDoor
set_option linter.unusedVariables false
theorem wk_next {l : List ND} : ∀ (k : Nat) (us : List (List UInt8)) (d : Int), Deep l k d → ∀ z ∈ wk l k us d, isDir l z.node = true → ∀ y ∈ (ndAt l z.node).names, (⟨z.node, y.name, y.node, pth z⟩ : ST) ∈ wk l k us d
  | 0, us, d, h, _, _, _, _, _ => absurd h (by simp [Deep])
  | k + 1, us, d, h, z, hz, hd, y, hy => by
    rw [wk_succ] at hz ⊢
    obtain ⟨y0, hy0, hz⟩ := List.mem_flatMap.1 hz
    refine List.mem_flatMap.2 ⟨y0, hy0, ?_⟩
    unfold wkN at hz ⊢
    rcases List.mem_cons.1 hz with rfl | hz
    · have hd' : isDir l y0.node = true := hd
      rw [if_pos hd']
      have hk : Deep l k y0.node := h y0 hy0 hd'
      match k, hk with
      | k + 1, hk =>
        refine List.mem_cons_of_mem _ ?_
        rw [wk_succ]
        exact List.mem_flatMap.2 ⟨y, hy, List.mem_cons_self ..⟩
    · by_cases hd' : isDir l y0.node = true
      · rw [if_pos hd'] at hz ⊢
        exact List.mem_cons_of_mem _ (wk_next k _ _ (h y0 hy0 hd') z hz hd y hy)
      · rw [if_neg hd'] at hz; cases hz
theorem names_few {l : List DV} (hB : FewB l) : (allNames (nds l)).length ≤ 100000 := by
  rw [allNames_length]
  have h1 : ∀ (t : List DV), (∀ x ∈ t, FewN x) → ((nds t).map fun n => n.names.length).sum ≤ t.length * 200 := by
    intro t
    induction t with
    | nil => intro _; exact Nat.le_refl _
    | cons x t ih =>
      intro h
      have h2 := ih (fun y hy => h y (List.mem_cons_of_mem _ hy))
      have h3 := (h x (List.mem_cons_self ..)).n
      unfold nds at h2 ⊢
      simp only [List.map_cons, List.sum_cons, List.length_cons]
      omega
  have h2 := h1 l hB.each
  have h3 := hB.n
  omega
end Go.Proofs.YtlcoapignfmgcaaGreatDoor
