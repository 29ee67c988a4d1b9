/- What the laws of layer 3 say of the plain matching. -/
import Derived.Test.YteclcjpbebimeaaDoorGlobT
namespace Go.Proofs.YteclcjpbebimeaaDoor
open Go.RowKit
set_option linter.unusedVariables false
theorem quoteP_cons (c : UInt8) (r : Bs) : quoteP (c :: r) = quoteC c ++ quoteP r := by simp [quoteP]
theorem next_plain (c : UInt8) (r : Bs) (h3 : c ≠ 91) (h4 : c ≠ 92) : (nextP (c :: r)).2 = 1 ∧ ∀ q, nextP (c :: q) = nextP (c :: r) := by
  by_cases h1 : c = 42
  · subst h1; exact ⟨rfl, fun q => rfl⟩
  by_cases h2 : c = 63
  · subst h2; exact ⟨rfl, fun q => rfl⟩
  refine ⟨by rw [nextP_cons, if_neg h1, if_neg h2, if_neg h3, if_neg h4], fun q => ?_⟩
  rw [nextP_cons, if_neg h1, if_neg h2, if_neg h3, if_neg h4, nextP_cons, if_neg h1, if_neg h2, if_neg h3, if_neg h4]
theorem compile_quote (s q : Bs) : compileP (quoteP s ++ q) = s.map El.one ++ compileP q := by
  induction s with
  | nil => rfl
  | cons c r ih =>
    rw [quoteP_cons, List.append_assoc, List.map_cons, List.cons_append, ← ih]
    generalize quoteP r ++ q = z
    unfold quoteC
    by_cases hc : c = 42 ∨ c = 63 ∨ c = 91 ∨ c = 92
    · rw [if_pos hc]
      show compileP (92 :: c :: z) = _
      rw [compile_cons]
      rfl
    · rw [if_neg hc]
      show compileP (c :: z) = _
      have h1 : ¬ c = 42 := fun h => hc (.inl h)
      have h2 : ¬ c = 63 := fun h => hc (.inr (.inl h))
      have h3 : ¬ c = 91 := fun h => hc (.inr (.inr (.inl h)))
      have h4 : ¬ c = 92 := fun h => hc (.inr (.inr (.inr h)))
      rw [compile_cons, nextP_cons, if_neg h1, if_neg h2, if_neg h3, if_neg h4]
      rfl
theorem compile_quote' (s : Bs) : compileP (quoteP s) = s.map El.one := by
  have := compile_quote s []
  rw [List.append_nil, compile_nil, List.append_nil] at this
  exact this
theorem M_ones (s : Bs) : ∀ t : Bs, M ((s.map El.one).map El.sem) t = (s == t) := by
  induction s with
  | nil => intro t; cases t <;> rfl
  | cons c r ih =>
    intro t
    rw [List.map_cons, List.map_cons]
    cases t with
    | nil => rw [M_none _ _ rfl]; rfl
    | cons x z =>
      rw [M_one _ _ _ _ rfl, ih z]
      show ((x == c) && (r == z)) = ((c :: r) == (x :: z))
      rw [List.cons_beq_cons, show (x == c) = (c == x) from by rw [Bool.eq_iff_iff, beq_iff_eq, beq_iff_eq]; exact eq_comm]
theorem special_quote (s : Bs) : specialP (quoteP s) = false := by
  induction s with
  | nil => rfl
  | cons c r ih =>
    rw [quoteP_cons]
    unfold quoteC
    by_cases hc : c = 42 ∨ c = 63 ∨ c = 91 ∨ c = 92
    · rw [if_pos hc]
      show specialP (92 :: c :: quoteP r) = _
      rw [special_step, if_neg (by decide), if_neg (fun h => absurd h.1 (by decide)), if_pos rfl]
      exact ih
    · rw [if_neg hc]
      show specialP (c :: quoteP r) = _
      rw [special_step, if_neg (fun h => hc (h.elim .inl fun h => .inr (.inl h))), if_neg (fun h => hc (.inr (.inr (.inl h.1)))), if_neg (fun h => hc (.inr (.inr (.inr h))))]
      exact ih
theorem match_quote (s t : Bs) (hs : s.length ≤ 400) (ht : t.length ≤ 400) : MatchP (quoteP s) t = (s == t) := by
  have := quote_len s
  unfold MatchP matchP
  rw [if_neg (by omega), compile_quote', M_ones]
theorem compile_plain (p q : Bs) (h : ∀ c ∈ p, c ≠ 91 ∧ c ≠ 92) : compileP (p ++ q) = compileP p ++ compileP q := by
  induction p with
  | nil => rfl
  | cons c r ih =>
    have hc := h c (by simp)
    have hn := next_plain c r hc.1 hc.2
    have ih := ih fun x hx => h x (by simp [hx])
    show compileP (c :: (r ++ q)) = _
    rw [compile_cons c r, compile_cons c (r ++ q), hn.2 (r ++ q), hn.1]
    show _ :: compileP (r ++ q) = _ :: (compileP r ++ compileP q)
    rw [ih]
theorem M_app {α : Type} (b : List (Bool × (α → Bool))) (t : List α) (hb : M b t = true) : ∀ (a : List (Bool × (α → Bool))) (s : List α), M a s = true → M (a ++ b) (s ++ t) = true
  | [], s, h => by
    obtain rfl : s = [] := by cases s with
      | nil => rfl
      | cons x r => exact absurd h (by simp [M])
    exact hb
  | e :: es, s, h => by
    cases he : e.1 with
    | true =>
      rw [M_many _ _ _ he, starM_iff] at h
      obtain ⟨j, hj⟩ := h
      rw [List.cons_append, M_many _ _ _ he, starM_iff]
      by_cases hl : j ≤ s.length
      · exact ⟨j, by rw [List.drop_append_of_le_length hl]; exact M_app b t hb es _ hj⟩
      · rw [List.drop_of_length_le (by omega)] at hj
        exact ⟨s.length, by rw [List.drop_left]; exact M_app b t hb es [] hj⟩
    | false =>
      cases s with
      | nil => rw [M_none _ _ he] at h; cases h
      | cons x r =>
        rw [M_one _ _ _ _ he, Bool.and_eq_true] at h
        rw [List.cons_append, List.cons_append, M_one _ _ _ _ he, h.1, M_app b t hb es r h.2]
        rfl
theorem M_star {α : Type} (f : α → Bool) (t : List α) : M [(true, f)] t = true := by
  rw [M_many _ _ _ rfl, starM_iff]
  exact ⟨t.length, by rw [List.drop_length]; rfl⟩
theorem match_star (s : Bs) (hs : s.length ≤ 1024) : MatchP [42] s = true := by
  unfold MatchP matchP
  rw [if_neg (by simp; omega)]
  exact M_star _ s
theorem match_true {p s : Bs} (h : MatchP p s = true) : matchP p s = true := by
  unfold MatchP at h
  split at h
  · cases h
  · exact h
theorem match_behind (p s t : Bs) (hp : p.length ≤ 200) (hs : s.length ≤ 200) (ht : t.length ≤ 200) (hc : ∀ c ∈ p, c ≠ 91 ∧ c ≠ 92) (h : MatchP p s = true) : MatchP (p ++ [42]) (s ++ t) = true := by
  have h := match_true h
  unfold MatchP
  rw [if_neg (by rw [List.length_append, List.length_append]; simp; omega)]
  unfold matchP at h ⊢
  rw [compile_plain p [42] hc, List.map_append]
  exact M_app _ t (M_star _ t) _ _ h
theorem match_ahead (p s t : Bs) (hp : p.length ≤ 200) (hs : s.length ≤ 200) (ht : t.length ≤ 200) (h : MatchP p s = true) : MatchP (42 :: p) (t ++ s) = true := by
  have h := match_true h
  unfold MatchP
  rw [if_neg (by rw [List.length_append, List.length_cons]; omega)]
  unfold matchP at h ⊢
  exact M_app _ s h [(true, El.star.fits)] t (M_star _ t)
theorem match_own (p s t : Bs) (hp : p.length ≤ 200) (hs : s.length ≤ 200) (ht : t.length ≤ 200) (hc : ∀ c ∈ p, c ≠ 91 ∧ c ≠ 92) (h : MatchP p s = true) : MatchP (p ++ quoteP t) (s ++ t) = true := by
  have h := match_true h
  have := quote_len t
  unfold MatchP
  rw [if_neg (by rw [List.length_append, List.length_append]; omega)]
  unfold matchP at h ⊢
  rw [compile_plain p _ hc, List.map_append, compile_quote']
  exact M_app _ t (by rw [M_ones]; simp) _ _ h
theorem splitP_cons (p : Bs) (hp : 2 ≤ p.length) (h0 : p[0]? = some 47) : ∃ r, p = 47 :: r ∧ splitP p = splitC 47 r := by
  cases p with
  | nil => simp at hp
  | cons x r =>
    obtain rfl : x = 47 := by simpa using h0
    refine ⟨r, rfl, ?_⟩
    unfold splitP
    rw [if_neg (by intro e; injection e with _ e; subst e; simp at hp)]
    rfl
theorem splitP_part (a p : Bs) (ha : (47 : UInt8) ∉ a) (hp : 2 ≤ p.length) (h0 : p[0]? = some 47) : splitP (47 :: (a ++ p)) = a :: splitP p := by
  obtain ⟨r, rfl, h⟩ := splitP_cons p hp h0
  rw [h]
  unfold splitP
  rw [if_neg (by intro e; injection e with _ e; simp at e)]
  show splitC 47 (a ++ 47 :: r) = _
  rw [splitC_app, splitC_no 47 a ha]
  rfl
theorem rootB_cons (r : Bs) : rootB (47 :: r) = true := by simp [rootB, Lib.hasPrefix]
theorem rootB_of (p : Bs) (h0 : p[0]? = some 47) : rootB p = true := by
  cases p with
  | nil => simp at h0
  | cons x r =>
    obtain rfl : x = 47 := by simpa using h0
    exact rootB_cons r
theorem path_eq (p s : Bs) (hp : p.length ≤ 1024) (hs : s.length ≤ 1024) (h0 : rootB p = true) (h1 : rootB s = true) : PathP p s = M ((splitP p).map semS) (splitP s) := by
  unfold PathP
  rw [if_neg (by omega), if_pos ⟨h0, h1⟩]
theorem path_part (p s a b : Bs) (hp : p.length ≤ 200) (hs : s.length ≤ 200) (ha : a.length ≤ 100) (hb : b.length ≤ 100) (hn : a ≠ [42, 42]) (hp2 : 2 ≤ p.length) (hs2 : 2 ≤ s.length) (hp0 : p[0]? = some 47) (hs0 : s[0]? = some 47) (hna : (47 : UInt8) ∉ a) (hnb : (47 : UInt8) ∉ b) :
    PathP (47 :: (a ++ p)) (47 :: (b ++ s)) = (PathP p s && MatchP a b) := by
  rw [path_eq _ _ (by simp; omega) (by simp; omega) (rootB_cons _) (rootB_cons _), path_eq p s (by omega) (by omega) (rootB_of p hp0) (rootB_of s hs0), splitP_part a p hna hp2 hp0, splitP_part b s hnb hs2 hs0, List.map_cons, M_one _ _ _ _ (show (semS a).1 = false from beq_eq_false_iff_ne.2 hn), Bool.and_comm]
  unfold MatchP
  rw [if_neg (by omega)]
  rfl
theorem path_stars (p s b : Bs) (hp : p.length ≤ 200) (hs : s.length ≤ 200) (hb : b.length ≤ 100) (hp2 : 2 ≤ p.length) (hs2 : 2 ≤ s.length) (hp0 : p[0]? = some 47) (hs0 : s[0]? = some 47) (hnb : (47 : UInt8) ∉ b) (h : PathP p s = true) :
    PathP (47 :: 42 :: 42 :: p) (47 :: (b ++ s)) = true ∧ PathP (47 :: 42 :: 42 :: p) s = true := by
  rw [path_eq p s (by omega) (by omega) (rootB_of p hp0) (rootB_of s hs0)] at h
  have e : splitP (47 :: 42 :: 42 :: p) = [42, 42] :: splitP p := splitP_part [42, 42] p (by decide) hp2 hp0
  constructor
  · rw [path_eq _ _ (by simp; omega) (by simp; omega) (rootB_cons _) (rootB_cons _), e, splitP_part b s hnb hs2 hs0, List.map_cons, M_many _ _ _ rfl, starM_iff]
    exact ⟨1, h⟩
  · rw [path_eq _ _ (by simp; omega) (by omega) (rootB_cons _) (rootB_of s hs0), e, List.map_cons, M_many _ _ _ rfl, starM_iff]
    exact ⟨0, h⟩
end Go.Proofs.YteclcjpbebimeaaDoor
