/- Policies as plain texts and lists: how a text is read, how a policy is written. No program in it. -/
import Derived.Test.YthbackkcamgidaaGreatDoorNdPm
import Derived.Test.YthbackkcamgidaaGreatDoorEnvA
namespace Go.Proofs.YthbackkcamgidaaGreatDoor
open Go.RowKit
set_option linter.unusedVariables false
/-- A blank. -/
def bl (b : UInt8) : Bool := b == 32 || b == 9
/-- The fields of a text, behind what stands already of the first. -/
def fA : LB → LB → List LB
  | now, [] => if now = [] then [] else [now]
  | now, b :: r => if bl b = true then (if now = [] then fA [] r else now :: fA [] r) else fA (now ++ [b]) r
def hsh (w : LB) : Bool := w.headD 0 == 35
def wordsU (l : LB) : List LB := (fA [] l).takeWhile fun w => !hsh w
def linesU (s : LB) : List LB := splitC 10 s
theorem fA_nil (now : LB) : fA now [] = if now = [] then [] else [now] := by rw [fA]
theorem fA_bl (now : LB) {b : UInt8} (r : LB) (h : bl b = true) : fA now (b :: r) = if now = [] then fA [] r else now :: fA [] r := by rw [fA, if_pos h]
theorem fA_no (now : LB) {b : UInt8} (r : LB) (h : bl b = false) : fA now (b :: r) = fA (now ++ [b]) r := by rw [fA, if_neg (by simp [h])]
theorem fA_app {c : UInt8} (hc : bl c = true) (b : LB) : ∀ (a now : LB), fA now (a ++ c :: b) = fA now a ++ fA [] b
  | [], now => by
    rw [List.nil_append, fA_bl _ _ hc, fA_nil]
    split <;> simp
  | x :: a, now => by
    rw [List.cons_append]
    cases hx : bl x with
    | true =>
      rw [fA_bl _ _ hx, fA_bl _ _ hx, fA_app hc b a []]
      split <;> simp
    | false => rw [fA_no _ _ hx, fA_no _ _ hx, fA_app hc b a]
theorem fA_word : ∀ (w now : LB), (∀ b ∈ w, bl b = false) → fA now w = if now ++ w = [] then [] else [now ++ w]
  | [], now, _ => by rw [fA_nil, List.append_nil]
  | x :: w, now, h => by
    rw [fA_no _ _ (h x List.mem_cons_self), fA_word w (now ++ [x]) (fun b hb => h b (List.mem_cons_of_mem _ hb))]
    simp
/-- What fields are: not empty, no blank in them, of the text's bytes. -/
theorem fA_mem : ∀ (s now : LB), (∀ b ∈ now, bl b = false) → ∀ w ∈ fA now s, w ≠ [] ∧ (∀ b ∈ w, bl b = false) ∧ ∀ b ∈ w, b ∈ now ∨ b ∈ s
  | [], now, h, w, hw => by
    rw [fA_nil] at hw
    split at hw
    · cases hw
    · rw [List.mem_singleton] at hw
      subst hw
      exact ⟨by assumption, h, fun b hb => .inl hb⟩
  | x :: s, now, h, w, hw => by
    cases hx : bl x with
    | true =>
      rw [fA_bl _ _ hx] at hw
      have key : w ∈ fA [] s → _ := fun hw => fA_mem s [] (by simp) w hw
      split at hw
      · obtain ⟨h1, h2, h3⟩ := key hw
        exact ⟨h1, h2, fun b hb => .inr (List.mem_cons_of_mem _ ((h3 b hb).resolve_left (by simp)))⟩
      · rcases List.mem_cons.1 hw with rfl | hw
        · exact ⟨by assumption, h, fun b hb => .inl hb⟩
        · obtain ⟨h1, h2, h3⟩ := key hw
          exact ⟨h1, h2, fun b hb => .inr (List.mem_cons_of_mem _ ((h3 b hb).resolve_left (by simp)))⟩
    | false =>
      rw [fA_no _ _ hx] at hw
      obtain ⟨h1, h2, h3⟩ := fA_mem s (now ++ [x]) (fun b hb => by
        rcases List.mem_append.1 hb with hb | hb
        · exact h b hb
        · rw [List.mem_singleton] at hb; subst hb; exact hx) w hw
      refine ⟨h1, h2, fun b hb => ?_⟩
      rcases h3 b hb with h4 | h4
      · rcases List.mem_append.1 h4 with h4 | h4
        · exact .inl h4
        · exact .inr (by rw [List.mem_singleton] at h4; rw [h4]; exact List.mem_cons_self)
      · exact .inr (List.mem_cons_of_mem _ h4)
theorem fA_len : ∀ (s now : LB), ((fA now s).map List.length).sum ≤ now.length + s.length
  | [], now => by
    rw [fA_nil]
    split <;> simp
  | x :: s, now => by
    cases hx : bl x with
    | true =>
      rw [fA_bl _ _ hx]
      have := fA_len s []
      split <;> simp at this ⊢ <;> omega
    | false =>
      rw [fA_no _ _ hx]
      have := fA_len s (now ++ [x])
      simp at this ⊢
      omega
/-- A word as it may stand in a line. -/
def PW (w : LB) : Prop := w ≠ [] ∧ (∀ b ∈ w, bl b = false ∧ b ≠ 10) ∧ hsh w = false
theorem takeWhile_all {α : Type} {p : α → Bool} : ∀ {l : List α}, (∀ x ∈ l, p x = true) → l.takeWhile p = l
  | [], _ => rfl
  | x :: l, h => by rw [List.takeWhile_cons_of_pos (h x List.mem_cons_self), takeWhile_all fun y hy => h y (List.mem_cons_of_mem _ hy)]
theorem takeWhile_mem {α : Type} {p : α → Bool} : ∀ {l : List α} {x : α}, x ∈ l.takeWhile p → x ∈ l ∧ p x = true
  | [], x, h => by cases h
  | y :: l, x, h => by
    cases hy : p y with
    | true =>
      rw [List.takeWhile_cons_of_pos hy] at h
      rcases List.mem_cons.1 h with rfl | h
      · exact ⟨List.mem_cons_self, hy⟩
      · exact ⟨List.mem_cons_of_mem _ (takeWhile_mem h).1, (takeWhile_mem h).2⟩
    | false => rw [List.takeWhile_cons_of_neg (by simp [hy])] at h; cases h
theorem fA_join : ∀ (ws : List LB), (∀ w ∈ ws, PW w) → fA [] (Lib.join ws [32]) = ws
  | [], _ => rfl
  | [w], h => by
    have hw := h w List.mem_cons_self
    rw [Lib.join_one, fA_word w [] (fun b hb => (hw.2.1 b hb).1), List.nil_append, if_neg hw.1]
  | w :: v :: r, h => by
    have hw := h w List.mem_cons_self
    have e : Lib.join (w :: v :: r) [32] = w ++ 32 :: Lib.join (v :: r) [32] := by
      rw [Lib.join_cons, Lib.join_cons]
      simp [Lib.joinTail]
    rw [e, fA_app (by decide), fA_word w [] (fun b hb => (hw.2.1 b hb).1), List.nil_append, if_neg hw.1, fA_join (v :: r) fun x hx => h x (List.mem_cons_of_mem _ hx)]
    rfl
theorem words_join (ws : List LB) (h : ∀ w ∈ ws, PW w) : wordsU (Lib.join ws [32]) = ws := by
  unfold wordsU
  rw [fA_join ws h]
  exact takeWhile_all fun w hw => by rw [(h w hw).2.2]; rfl
theorem words_mem {l w : LB} (h10 : (10 : UInt8) ∉ l) (h : w ∈ wordsU l) : PW w := by
  obtain ⟨h1, h2⟩ := takeWhile_mem h
  obtain ⟨h3, h4, h5⟩ := fA_mem l [] (by simp) w h1
  refine ⟨h3, fun b hb => ⟨h4 b hb, ?_⟩, by simpa using h2⟩
  rintro rfl
  rcases h5 10 hb with h | h
  · cases h
  · exact h10 h
theorem words_one {w : LB} (h : PW w) : wordsU w = [w] := by
  have := words_join [w] (fun v hv => by rw [List.mem_singleton] at hv; rw [hv]; exact h)
  rwa [Lib.join_one] at this
/-- A remark behind a line changes no word. -/
theorem takeWhile_stop {α : Type} {p : α → Bool} {x : α} (hx : p x = false) : ∀ (a b : List α), (a ++ x :: b).takeWhile p = a.takeWhile p
  | [], b => by rw [List.nil_append, List.takeWhile_cons_of_neg (by simp [hx])]; rfl
  | y :: a, b => by
    rw [List.cons_append]
    cases hy : p y with
    | true => rw [List.takeWhile_cons_of_pos hy, List.takeWhile_cons_of_pos hy, takeWhile_stop hx a b]
    | false => rw [List.takeWhile_cons_of_neg (by simp [hy]), List.takeWhile_cons_of_neg (by simp [hy])]
theorem fA_first : ∀ (s now : LB), now ≠ [] → ∃ t r, fA now s = (now ++ t) :: r
  | [], now, h => ⟨[], [], by rw [fA_nil, if_neg h, List.append_nil]⟩
  | x :: s, now, h => by
    cases hx : bl x with
    | true => exact ⟨[], fA [] s, by rw [fA_bl _ _ hx, if_neg h, List.append_nil]⟩
    | false =>
      obtain ⟨t, r, e⟩ := fA_first s (now ++ [x]) (by simp)
      exact ⟨x :: t, r, by rw [fA_no _ _ hx, e]; simp⟩
theorem hsh_cons (t : LB) : hsh (35 :: t) = true := rfl
theorem words_remark (l r : LB) : wordsU (l ++ 32 :: 35 :: r) = wordsU l := by
  unfold wordsU
  rw [fA_app (by decide)]
  obtain ⟨t, q, e⟩ := fA_first r [35] (by simp)
  rw [show fA [] (35 :: r) = fA [35] r from fA_no [] r (by decide), e]
  exact takeWhile_stop (by rw [List.cons_append, hsh_cons]; rfl) _ _
theorem words_hash (r : LB) : wordsU (35 :: r) = [] := by
  unfold wordsU
  obtain ⟨t, q, e⟩ := fA_first r [35] (by simp)
  rw [show fA [] (35 :: r) = fA [35] r from fA_no [] r (by decide), e]
  rw [List.takeWhile_cons_of_neg (by rw [List.cons_append, hsh_cons]; simp)]
/-- The words of a text's lines. -/
def rowsU (s : LB) : List (List LB) := (linesU s).map wordsU
theorem rows_line (a b : LB) : rowsU (a ++ 10 :: b) = rowsU a ++ rowsU b := by unfold rowsU linesU; rw [splitC_app, List.map_append]
theorem rows_one {a : LB} (h : (10 : UInt8) ∉ a) : rowsU a = [wordsU a] := by unfold rowsU linesU; rw [splitC_no 10 a h]; rfl
theorem rows_remark : ∀ (s r : LB), (10 : UInt8) ∉ r → rowsU (s ++ 32 :: 35 :: r) = rowsU s := by
  intro s r hr
  unfold rowsU linesU
  have key : ∀ s : LB, ∃ h t, splitC 10 s = h ++ [t] ∧ splitC 10 (s ++ 32 :: 35 :: r) = h ++ [t ++ 32 :: 35 :: r] := by
    intro s
    induction s with
    | nil => exact ⟨[], [], rfl, by rw [List.nil_append, List.nil_append, splitC_no]; simp [hr]⟩
    | cons x s ih =>
      obtain ⟨h, t, e1, e2⟩ := ih
      rw [List.cons_append, splitC, splitC, e1, e2]
      by_cases hx : x = 10
      · rw [if_pos hx, if_pos hx]
        exact ⟨[] :: h, t, rfl, rfl⟩
      · rw [if_neg hx, if_neg hx]
        cases h with
        | nil => exact ⟨[], x :: t, rfl, rfl⟩
        | cons a h => exact ⟨(x :: a) :: h, t, rfl, rfl⟩
  obtain ⟨h, t, e1, e2⟩ := key s
  rw [e1, e2, List.map_append, List.map_append, List.map_singleton, List.map_singleton, words_remark]
/-- The operations that rules are about, and their words. -/
def GO : List Int := [1, 6, 7, 9, 10, 11, 12, 13, 14]
def wordO (o : Int) : LB :=
  if o = 1 then [111, 112, 101, 110] else if o = 6 then [119, 114, 105, 116, 101] else if o = 7 then [115, 112, 97, 119, 110] else if o = 9 then [99, 104, 100, 105, 114] else if o = 10 then [115, 116, 97, 116] else if o = 11 then [114, 101, 97, 100, 100, 105, 114] else if o = 12 then [117, 110, 108, 105, 110, 107] else if o = 13 then [109, 107, 100, 105, 114] else if o = 14 then [114, 101, 110, 97, 109, 101] else []
/-- Names found one behind another. -/
def opsGo : List LB → List Int → Option (List Int)
  | [], _ => some []
  | n :: ns, all => match all.dropWhile (fun o => !(wordO o == n)) with
    | [] => none
    | o :: rest => (opsGo ns rest).map (o :: ·)
def opsU (s : LB) : Option (List Int) := if s = [42] then some GO else opsGo (splitC 44 s) GO
def opsWordU (l : List Int) : LB := if l = GO then [42] else Lib.join (l.map wordO) [44]
theorem dropWhile_form {α : Type} {p : α → Bool} : ∀ (l : List α), (l.dropWhile p = [] ∧ ∀ x ∈ l, p x = true) ∨ ∃ a x r, l = a ++ x :: r ∧ l.dropWhile p = x :: r ∧ p x = false ∧ ∀ y ∈ a, p y = true
  | [] => .inl ⟨rfl, by simp⟩
  | y :: l => by
    cases hy : p y with
    | false => exact .inr ⟨[], y, l, rfl, by rw [List.dropWhile_cons_of_neg (by simp [hy])], hy, by simp⟩
    | true =>
      rw [List.dropWhile_cons_of_pos hy]
      rcases dropWhile_form (p := p) l with ⟨h1, h2⟩ | ⟨a, x, r, rfl, h2, h3, h4⟩
      · exact .inl ⟨h1, fun x hx => by rcases List.mem_cons.1 hx with rfl | hx; exact hy; exact h2 x hx⟩
      · exact .inr ⟨y :: a, x, r, rfl, h2, h3, fun z hz => by rcases List.mem_cons.1 hz with rfl | hz; exact hy; exact h4 z hz⟩
/-- What is found is a part of all, in order, and its words are the names. -/
theorem opsGo_sub : ∀ (ns : List LB) (all l : List Int), opsGo ns all = some l → l.Sublist all ∧ ns = l.map wordO
  | [], all, l, h => by
    unfold opsGo at h
    injection h with h
    subst h
    exact ⟨List.nil_sublist _, rfl⟩
  | n :: ns, all, l, h => by
    unfold opsGo at h
    rcases dropWhile_form (p := fun o => !(wordO o == n)) all with ⟨h1, h2⟩ | ⟨a, x, r, rfl, h2, h3, h4⟩
    · rw [h1] at h; cases h
    · rw [h2] at h
      dsimp only at h
      cases hq : opsGo ns r with
      | none => rw [hq] at h; cases h
      | some m =>
        rw [hq] at h
        simp only [Option.map_some, Option.some.injEq] at h
        subst h
        obtain ⟨i1, i2⟩ := opsGo_sub ns r m hq
        have hx : wordO x = n := by simpa using h3
        exact ⟨(i1.cons_cons x).trans (List.sublist_append_right _ _), by rw [List.map_cons, hx, ← i2]⟩
/-- Words of different operations differ. -/
def Apart (l : List Int) : Prop := l.Pairwise fun a b => wordO a ≠ wordO b
theorem GO_apart : Apart GO := by unfold Apart GO; decide
theorem opsGo_of : ∀ (all l : List Int), Apart all → l.Sublist all → opsGo (l.map wordO) all = some l
  | [], l, ha, h => by
    obtain rfl := List.sublist_nil.1 h
    rfl
  | x :: all, l, ha, h => by
    cases l with
    | nil => rfl
    | cons o m =>
      have hall : Apart all := (List.pairwise_cons.1 ha).2
      cases h with
      | cons _ h =>
        have hne : wordO x ≠ wordO o := (List.pairwise_cons.1 ha).1 o (h.subset List.mem_cons_self)
        have ih := opsGo_of all (o :: m) hall h
        rw [List.map_cons] at ih ⊢
        unfold opsGo at ih ⊢
        rw [List.dropWhile_cons_of_pos (by simpa using hne)]
        exact ih
      | cons_cons _ h =>
        have ih := opsGo_of all m hall h
        rw [List.map_cons]
        unfold opsGo
        rw [List.dropWhile_cons_of_neg (by simp)]
        simp [ih]
/-- Operations as a rule may have them. -/
def OpsR (l : List Int) : Prop := l ≠ [] ∧ l.Sublist GO
theorem opsU_right {s : LB} {l : List Int} (h : opsU s = some l) : OpsR l := by
  unfold opsU at h
  split at h
  · injection h with h
    subst h
    exact ⟨by decide, List.Sublist.refl _⟩
  · obtain ⟨h1, h2⟩ := opsGo_sub _ _ _ h
    refine ⟨?_, h1⟩
    rintro rfl
    exact splitC_ne 44 s h2
theorem word_GO : ∀ o ∈ GO, wordO o ≠ [] ∧ (wordO o).length ≤ 7 ∧ (∀ b ∈ wordO o, bl b = false ∧ b ≠ 10 ∧ b ≠ 44) ∧ hsh (wordO o) = false ∧ wordO o ≠ [42] := by decide
theorem join_two_c (c : UInt8) (x y : LB) (r : List LB) : Lib.join (x :: y :: r) [c] = x ++ c :: Lib.join (y :: r) [c] := by
  rw [Lib.join_cons, Lib.join_cons]
  simp [Lib.joinTail]
theorem splitC_join (c : UInt8) : ∀ (ks : List LB), ks ≠ [] → (∀ k ∈ ks, c ∉ k) → splitC c (Lib.join ks [c]) = ks
  | [], h, _ => absurd rfl h
  | [x], _, h => by rw [Lib.join_one, splitC_no c x (h x List.mem_cons_self)]
  | x :: y :: r, _, h => by
    rw [join_two_c, splitC_app, splitC_no c x (h x List.mem_cons_self), splitC_join c (y :: r) (by simp) fun k hk => h k (List.mem_cons_of_mem _ hk)]
    rfl
theorem join_splitC (c : UInt8) : ∀ s : LB, Lib.join (splitC c s) [c] = s
  | [] => rfl
  | x :: r => by
    have ih := join_splitC c r
    obtain ⟨h, t, e⟩ := splitC_form c r
    rw [splitC]
    rw [e] at ih ⊢
    split
    · rename_i hx
      subst hx
      rw [join_two_c, ih]; rfl
    · show Lib.join ((x :: h) :: t) [c] = x :: r
      rw [← ih, Lib.join_cons, Lib.join_cons]; rfl
theorem join_len (c : UInt8) (ks : List LB) (m : Nat) (h : ∀ k ∈ ks, k.length ≤ m) : (Lib.join ks [c]).length ≤ ks.length * (m + 1) := by
  induction ks with
  | nil => simp [Lib.join_nil]
  | cons x r ih =>
    have hx := h x List.mem_cons_self
    have hr := ih fun k hk => h k (List.mem_cons_of_mem _ hk)
    cases r with
    | nil => rw [Lib.join_one]; simp; omega
    | cons y r =>
      rw [join_two_c]
      simp only [List.length_append, List.length_cons] at hr ⊢
      have : (r.length + 1 + 1) * (m + 1) = (r.length + 1) * (m + 1) + (m + 1) := Nat.succ_mul _ _
      omega
theorem opsU_len {s : LB} {l : List Int} (h : opsU s = some l) : s.length ≤ 100 := by
  have hr := opsU_right h
  unfold opsU at h
  split at h
  · subst s; simp
  · obtain ⟨h1, h2⟩ := opsGo_sub _ _ _ h
    have h3 := join_len 44 (splitC 44 s) 7 (fun k hk => by
      rw [h2] at hk
      obtain ⟨o, ho, rfl⟩ := List.mem_map.1 hk
      exact (word_GO o (h1.subset ho)).2.1)
    rw [join_splitC, h2, List.length_map] at h3
    have h4 := h1.length_le
    have h5 : GO.length = 9 := rfl
    omega
theorem opsWord_word {l : List Int} (h : OpsR l) : PW (opsWordU l) ∧ opsU (opsWordU l) = some l := by
  unfold opsWordU
  by_cases hl : l = GO
  · rw [if_pos hl, hl]
    exact ⟨⟨by simp, by decide, by decide⟩, rfl⟩
  · rw [if_neg hl]
    have hne : l.map wordO ≠ [] := by simpa using h.1
    have hw : ∀ k ∈ l.map wordO, k ≠ [] ∧ (∀ b ∈ k, bl b = false ∧ b ≠ 10 ∧ b ≠ 44) ∧ hsh k = false ∧ k ≠ [42] := fun k hk => by
      obtain ⟨o, ho, rfl⟩ := List.mem_map.1 hk
      obtain ⟨g1, g2, g3, g4, g5⟩ := word_GO o (h.2.subset ho)
      exact ⟨g1, g3, g4, g5⟩
    have hsp := splitC_join 44 (l.map wordO) hne (fun k hk hc => ((hw k hk).2.1 44 hc).2.2 rfl)
    have hgo := opsGo_of GO l GO_apart h.2
    generalize l.map wordO = ks at *
    have key : ∀ ks : List LB, ks ≠ [] → (∀ k ∈ ks, k ≠ [] ∧ (∀ b ∈ k, bl b = false ∧ b ≠ 10 ∧ b ≠ 44) ∧ hsh k = false ∧ k ≠ [42]) → PW (Lib.join ks [44]) := by
      intro ks h0 hw
      cases ks with
      | nil => exact absurd rfl h0
      | cons x r =>
        obtain ⟨g1, g2, g3, _⟩ := hw x List.mem_cons_self
        refine ⟨?_, ?_, ?_⟩
        · rw [Lib.join_cons]; simp [g1]
        · intro b hb
          have : ∀ ks : List LB, (∀ k ∈ ks, ∀ b ∈ k, bl b = false ∧ b ≠ 10) → ∀ b ∈ Lib.join ks [44], bl b = false ∧ b ≠ 10 := by
            intro ks hk
            induction ks with
            | nil => intro b hb; rw [Lib.join_nil] at hb; cases hb
            | cons x r ih =>
              cases r with
              | nil => rw [Lib.join_one]; exact hk x List.mem_cons_self
              | cons y r =>
                rw [join_two_c]
                intro b hb
                rcases List.mem_append.1 hb with hb | hb
                · exact hk x List.mem_cons_self b hb
                · rcases List.mem_cons.1 hb with rfl | hb
                  · decide
                  · exact ih (fun k hk' => hk k (List.mem_cons_of_mem _ hk')) b hb
          exact this _ (fun k hk b hb => ⟨((hw k hk).2.1 b hb).1, ((hw k hk).2.1 b hb).2.1⟩) b hb
        · rw [Lib.join_cons]
          cases x with
          | nil => exact absurd rfl g1
          | cons c t => exact g3
    refine ⟨key ks hne hw, ?_⟩
    unfold opsU
    rw [if_neg, hsp, hgo]
    intro he
    rw [he] at hsp
    have h42 : splitC 44 [42] = [[42]] := by decide
    rw [h42] at hsp
    exact (hw [42] (by rw [← hsp]; exact List.mem_cons_self)).2.2.2 rfl
end Go.Proofs.YthbackkcamgidaaGreatDoor
