/- What LexApart reads of a row of tokens. No program's walk in it. -/
import Derived.Test.YtpfcfcbljkdkhaaDoorLawR0
import Derived.Test.YtpfcfcbljkdkhaaDoorLexZ
namespace Go.Proofs.YtpfcfcbljkdkhaaDoor
open Go.RowKit
set_option linter.unusedVariables false
theorem scanL_end (p : LB) : ∀ (f : Nat) (s : S), (scanL p f s).2.1 = 0 → ∃ us t, (scanL p f s).1 = us ++ [t] ∧ t.text = []
  | 0, s, h => absurd h (by simp [scanL])
  | f + 1, s, h => by
    unfold scanL at h ⊢
    split at h
    · rename_i h1
      rw [if_pos h1]
      split at h
      · rename_i h2
        rw [if_pos h2]
        exact ⟨s.toks, _, rfl, by simp⟩
      · exact absurd h (by simp)
    · rename_i h1
      rw [if_neg h1]
      split at h
      · exact absurd h (by simp)
      · rename_i h2
        simp only [h2] at h ⊢
        exact scanL_end p f _ h
theorem scanP_end (p : LB) (h : (scanP p).2.1 = 0) : ∃ us t, (scanP p).1 = us ++ [t] ∧ t.text = [] := by
  unfold scanP at h ⊢
  split at h
  · exact absurd h (by simp)
  · rename_i h1
    rw [if_neg h1]
    exact scanL_end p _ _ h
theorem rise_take {p : LB} : ∀ (l : List K) (lo i : Nat), Rise p lo l p.length → Rise p lo (l.take i) p.length
  | [], lo, i, h => by rw [List.take_nil]; exact h
  | k :: r, lo, 0, h => by
    obtain ⟨h1, ⟨h2, _⟩, _⟩ := h
    show lo ≤ p.length
    omega
  | k :: r, lo, i + 1, h => ⟨h.1, h.2.1, rise_take r _ i h.2.2⟩
theorem join_len {p : LB} {ts : List T} (h : Rise p 0 (ts.map key) p.length) (i : Nat) : (joinT (ts.take i)).length ≤ p.length + i := by
  have h1 := rise_len (p := p) (ts.take i) 0 (by rw [List.map_take]; exact rise_take _ _ _ h)
  have := List.length_take_le i ts
  omega
theorem join_next {ts : List T} {i : Nat} (hi : i < ts.length) : joinT (ts.take (i + 1)) = joinT (ts.take i) ++ (ts[i].text ++ [32]) := by
  rw [List.take_succ_eq_append_getElem hi, joinT_snoc]
theorem plain_next {ts : List T} {i : Nat} (hi : i < ts.length) (h : ∀ u ∈ ts.take i, Plain u) (h2 : Plain ts[i]) : ∀ u ∈ ts.take (i + 1), Plain u := by
  intro u hu
  rw [List.take_succ_eq_append_getElem hi, List.mem_append, List.mem_singleton] at hu
  rcases hu with hu | rfl
  · exact h u hu
  · exact h2
/-- The tokens, written with a blank behind each, come back. -/
theorem apart_back {p : LB} {ts : List T} (hend : ∃ us t, ts = us ++ [t] ∧ t.text = []) (hk : ∃ us t, ts = us ++ [t] ∧ t.kind = 5 ∧ ∀ u ∈ us, u.kind ≠ 5) (hpl : ∀ u ∈ ts.take (ts.length - 1), Plain u) (hl : (joinT (ts.take (ts.length - 1))).length ≤ 4096) :
    ∃ out, scanP (joinT (ts.take (ts.length - 1))) = (out, 0, 0) ∧ out.length = ts.length ∧ ∀ i (h1 : i < out.length) (h2 : i < ts.length), out[i].kind = ts[i].kind ∧ out[i].text = ts[i].text := by
  obtain ⟨us, t, rfl, ht⟩ := hend
  obtain ⟨us', t', he, hk5, _⟩ := hk
  obtain ⟨rfl, rfl⟩ : us = us' ∧ t = t' := by
    have := List.append_inj' he rfl
    exact ⟨this.1, by simpa using this.2⟩
  have hu : (us ++ [t]).take ((us ++ [t]).length - 1) = us := by simp
  rw [hu] at hpl hl ⊢
  obtain ⟨out, e1, e2⟩ := rescan_all us hpl hl
  have e3 : out.map kt = (us ++ [t]).map kt := by rw [e2]; simp [kt, ht, hk5]
  have e4 : out.length = (us ++ [t]).length := by simpa using congrArg List.length e3
  refine ⟨out, e1, e4, fun i h1 h2 => ?_⟩
  have : kt out[i] = kt (us ++ [t])[i] := by
    have h3 := congrArg (fun l => l[i]?) e3
    simp only [List.getElem?_map, List.getElem?_eq_getElem h1, List.getElem?_eq_getElem h2, Option.map_some, Option.some.injEq] at h3
    exact h3
  simp only [kt, Prod.mk.injEq] at this
  exact this
end Go.Proofs.YtpfcfcbljkdkhaaDoor
