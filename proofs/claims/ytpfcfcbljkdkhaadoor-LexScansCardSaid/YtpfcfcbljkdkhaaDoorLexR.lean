/- The tokens of a text rise, each is what is written there, and a word is skipped just to its end. No program in it. -/
import Derived.Test.YtpfcfcbljkdkhaaDoorLexM
namespace Go.Proofs.YtpfcfcbljkdkhaaDoor
set_option linter.unusedVariables false
inductive Chain (p : LB) : Nat → Nat → Prop
  | stop (a : Nat) : Chain p a a
  | step (a b : Nat) : (skipP p a).2 = true → Chain p (skipP p a).1 b → Chain p a b
theorem Chain.le {p : LB} {a b : Nat} (h : Chain p a b) : a ≤ b := by
  induction h with
  | stop a => exact Nat.le_refl _
  | step a b h1 h2 ih => have := (skipP_facts p a).2 h1; omega
theorem Chain.next {p : LB} {a b : Nat} (h : Chain p a b) (hlt : a < b) : (skipP p a).2 = true ∧ a < (skipP p a).1 ∧ Chain p (skipP p a).1 b := by
  cases h with
  | stop a => omega
  | step a b h1 h2 => exact ⟨h1, (skipP_facts p a).2 h1, h2⟩
theorem wordL_chain (p : LB) : ∀ (f e : Nat), (wordL p f e).2 = true → Chain p e (wordL p f e).1
  | 0, e, _ => by simp [wordL]; exact Chain.stop e
  | f + 1, e, h => by
    unfold wordL at h ⊢
    split
    · exact Chain.stop e
    · rename_i h1
      rw [if_neg h1] at h
      split
      · exact Chain.stop e
      · rename_i h2
        rw [if_neg h2] at h
        split
        · rename_i h3
          rw [if_pos h3] at h; simp at h
        · rename_i h3
          rw [if_neg h3] at h
          exact Chain.step _ _ (by simpa using h3) (wordL_chain p f _ h)
abbrev K := Nat × LB × Nat
def key (t : T) : K := (t.kind, t.text, t.at_)
def KOk (p : LB) (k : K) : Prop := k.2.2 + k.2.1.length ≤ p.length ∧ (p.drop k.2.2).take k.2.1.length = k.2.1 ∧ (k.1 = 1 → Chain p k.2.2 (k.2.2 + k.2.1.length))
def Rise (p : LB) : Nat → List K → Nat → Prop
  | lo, [], hi => lo ≤ hi
  | lo, k :: r, hi => lo ≤ k.2.2 ∧ KOk p k ∧ Rise p (k.2.2 + k.2.1.length) r hi
theorem Rise.up {p : LB} {hi hi' : Nat} : ∀ (l : List K) (lo : Nat), Rise p lo l hi → hi ≤ hi' → Rise p lo l hi'
  | [], lo, h, hh => by unfold Rise at h ⊢; omega
  | k :: r, lo, h, hh => ⟨h.1, h.2.1, Rise.up r _ h.2.2 hh⟩
theorem Rise.snoc {p : LB} (k : K) : ∀ (l : List K) (lo : Nat), Rise p lo l k.2.2 → KOk p k → Rise p lo (l ++ [k]) (k.2.2 + k.2.1.length)
  | [], lo, h, hk => by unfold Rise at h; exact ⟨h, hk, by unfold Rise; omega⟩
  | j :: r, lo, h, hk => ⟨h.1, h.2.1, Rise.snoc k r _ h.2.2 hk⟩
/-- What every state of the scanner keeps. -/
def SR (p : LB) (s : S) : Prop := Rise p 0 (s.toks.map key) s.at_ ∧ ∀ t ∈ s.toks, t.kind ≠ 5
theorem addS_rise {p : LB} {s : S} {k n : Nat} (h : SR p s) (hk : k ≠ 5) (h1 : s.at_ + n ≤ p.length) (hc : k = 1 → Chain p s.at_ (s.at_ + n)) : SR p (addS p s k n) := by
  have hl : ((p.drop s.at_).take n).length = n := by rw [List.length_take, List.length_drop]; omega
  refine ⟨?_, fun t ht => ?_⟩
  · have := Rise.snoc (p := p) (k, (p.drop s.at_).take n, s.at_) (s.toks.map key) 0 h.1 ⟨by simp only [hl]; exact h1, by simp only [hl], fun e => by simp only [hl]; exact hc e⟩
    simp only [hl] at this
    simp only [addS, List.map_append]
    exact this
  · simp only [addS, List.mem_append, List.mem_singleton] at ht
    rcases ht with ht | rfl
    · exact h.2 t ht
    · exact hk
theorem docsL_keys (p : LB) : ∀ (l : List Nat) (i : Nat) (ts : List T) (j : Nat) (us : List T), (∀ k ∈ l, k < ts.length) → docsL p l i ts = some (j, us) → us.map key = ts.map key
  | [], i, ts, j, us, hl, h => by simp [docsL] at h; rw [h.2]
  | k :: r, i, ts, j, us, hl, h => by
    unfold docsL at h
    split at h
    · cases h
    · have hk := hl k (by simp)
      rw [docsL_keys p r _ _ j us (fun q hq => by rw [List.length_set]; exact hl q (by simp [hq])) h]
      apply List.ext_getElem (by simp)
      intro q h1 h2
      simp only [List.getElem_map, List.getElem_set]
      split
      · rename_i e; subst e
        simp [key, List.getD_eq_getElem?_getD, hk]
      · rfl
theorem tokenS_rise {p : LB} {s : S} (hs : SOk p s) (h : SR p s) (hi : s.at_ < p.length) (hb : (tokenS p s).2 = true) : SR p (tokenS p s).1 := by
  have ho := operP_le (p.drop s.at_)
  have hn := numP_le (p.drop s.at_)
  rw [List.length_drop] at ho hn
  unfold tokenS at hb ⊢
  split
  · rename_i h0
    rw [if_pos h0] at hb
    have hr := addS_rise (k := 4) h (by decide) (by omega : s.at_ + 1 ≤ p.length) (by simp)
    have ho := addS_ok (k := 4) hs (Nat.le_refl 1) (by omega : s.at_ + 1 ≤ p.length)
    unfold docsS at hb ⊢
    split
    · rename_i hd; rw [hd] at hb; simp at hb
    · rename_i j us hd
      have hk := docsL_keys p _ _ _ j us ho.2.2.2.2 hd
      have hf := docsL_facts p _ _ _ ho.1 j us hd
      refine ⟨?_, fun t ht => ?_⟩
      · show Rise p 0 (us.map key) j
        rw [hk]; exact Rise.up _ _ hr.1 hf.1
      · have : key t ∈ us.map key := List.mem_map_of_mem ht
        rw [hk] at this
        obtain ⟨t', ht', e⟩ := List.mem_map.1 this
        have := hr.2 t' ht'
        rw [show t.kind = t'.kind from (congrArg (·.1) e).symm]
        exact this
  · rename_i h0
    rw [if_neg h0] at hb
    split
    · exact addS_rise h (by decide) (by omega) (by simp)
    · rename_i h2
      rw [if_neg h2] at hb
      split
      · exact addS_rise h (by decide) (by omega) (by simp)
      · rename_i h3
        rw [if_neg h3] at hb
        have hw := wordL_facts p (p.length + 1) s.at_ hs.1
        unfold wordS at hb ⊢
        simp only [] at hb ⊢
        split
        · rename_i h4; rw [if_pos h4] at hb; simp at hb
        · rename_i h4
          rw [if_neg h4] at hb
          split
          · rename_i h5; rw [if_pos h5] at hb; simp at hb
          · have hb' : (wordL p (p.length + 1) s.at_).2 = true := by simpa using h4
            have hge := hw.2 hb'
            have hc := wordL_chain p _ _ hb'
            have := addS_rise (p := p) (s := { s with wait := if hereT s.toks = true then s.wait ++ [s.toks.length] else s.wait }) (k := 1) (n := (wordL p (p.length + 1) s.at_).1 - s.at_) ⟨h.1, h.2⟩ (by decide) (by simp only []; omega) (fun _ => by
              simp only []
              rw [show s.at_ + ((wordL p (p.length + 1) s.at_).1 - s.at_) = (wordL p (p.length + 1) s.at_).1 by omega]
              exact hc)
            exact this
/-- What a text's tokens keep: a fault lies within the text; tokens rise, the last one alone is the end. -/
def Out (p : LB) (r : List T × Nat × Nat) : Prop := (r.2.1 ≠ 0 ∧ r.1 = [] ∧ r.2.2 ≤ p.length) ∨ (r.2.1 = 0 ∧ r.2.2 = 0 ∧ Rise p 0 (r.1.map key) p.length ∧ r.1.length ≤ p.length + 1 ∧ ∃ ts t, r.1 = ts ++ [t] ∧ t.kind = 5 ∧ ∀ u ∈ ts, u.kind ≠ 5)
theorem scanL_out (p : LB) : ∀ (f : Nat) (s : S), SOk p s → SR p s → Out p (scanL p f s)
  | 0, s, ho, hr => .inl ⟨by simp [scanL], rfl, ho.2.2.1⟩
  | f + 1, s, ho, hr => by
    unfold scanL
    split
    · rename_i h1
      split
      · refine .inr ⟨rfl, rfl, ?_, ?_, s.toks, ⟨5, (p.drop s.at_).take 0, s.at_, [], false⟩, rfl, rfl, hr.2⟩
        · have h2 : s.at_ = p.length := by have := ho.1; omega
          have := Rise.snoc (p := p) (5, [], s.at_) (s.toks.map key) 0 hr.1 ⟨by simp; omega, rfl, by simp⟩
          simp only [addS, List.map_append, List.take_zero]
          refine Rise.up _ _ this (by simp; omega)
        · have := ho.2.1; have := ho.1; simp [addS]; omega
      · exact .inl ⟨by simp, rfl, Nat.le_refl _⟩
    · rename_i h1
      have ht := tokenS_ok ho (by omega)
      split
      · rename_i h2
        exact .inl ⟨by simp, rfl, ht.2 h2⟩
      · rename_i h2
        have hb : (tokenS p s).2 = true := by simpa using h2
        have hk := (ht.1 hb).1
        have hrr := tokenS_rise ho hr (by omega) hb
        refine scanL_out p f _ (blank_ok hk) ⟨Rise.up _ _ hrr.1 (blankP_facts p _ hk.1).1, hrr.2⟩
theorem scanP_out (p : LB) : Out p (scanP p) := by
  unfold scanP
  split
  · exact .inl ⟨by simp, rfl, by simp; omega⟩
  · have hb := blankP_facts p 0 (Nat.zero_le _)
    exact scanL_out p _ _ ⟨hb.2, Nat.zero_le _, Nat.zero_le _, Nat.le_refl _, by simp⟩ ⟨by simp [Rise], by simp⟩
end Go.Proofs.YtpfcfcbljkdkhaaDoor
