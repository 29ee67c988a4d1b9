/- What LexRises reads of a row of tokens. No program's walk in it. -/
import Derived.Test.YtpfcfcbljkdkhaaDoorLexO
namespace Go.Proofs.YtpfcfcbljkdkhaaDoor
open Go.RowKit
set_option linter.unusedVariables false
theorem rise_at {p : LB} {ts : List T} {lo i : Nat} (hi : i < ts.length) (h : Rise p lo ((ts.map key).drop i) p.length) :
    lo ≤ ts[i].at_ ∧ ts[i].at_ + ts[i].text.length ≤ p.length ∧ (p.drop ts[i].at_).take ts[i].text.length = ts[i].text ∧ (ts[i].kind = 1 → Chain p ts[i].at_ (ts[i].at_ + ts[i].text.length)) ∧ Rise p (ts[i].at_ + ts[i].text.length) ((ts.map key).drop (i + 1)) p.length := by
  have hi' : i < (ts.map key).length := by simpa using hi
  rw [List.drop_eq_getElem_cons hi'] at h
  obtain ⟨h1, ⟨h2, h3, h4⟩, h5⟩ := h
  simp only [List.getElem_map, key] at h1 h2 h3 h4 h5
  exact ⟨h1, h2, h3, h4, h5⟩
theorem last_kind {ts : List T} (h : ∃ us t, ts = us ++ [t] ∧ t.kind = 5 ∧ ∀ u ∈ us, u.kind ≠ 5) {i : Nat} (hi : i < ts.length) : (ts[i].kind = 5) ↔ (i + 1 = ts.length) := by
  obtain ⟨us, t, rfl, h1, h2⟩ := h
  rw [List.length_append, List.length_singleton] at hi ⊢
  rcases Nat.lt_or_ge i us.length with hl | hl
  · rw [List.getElem_append_left hl]
    exact ⟨fun h => absurd h (h2 _ (List.getElem_mem _)), fun h => by omega⟩
  · obtain rfl : i = us.length := by omega
    rw [List.getElem_append_right (Nat.le_refl _)]
    simp [h1]
end Go.Proofs.YtpfcfcbljkdkhaaDoor
