/- A part that is not special: its elements, and the text that it stands for. No program in it. -/
import Derived.Test.YtbphpijehfcbkaaDoorExX
namespace Go.Proofs.YtbphpijehfcbkaaDoor
open Go.RowKit
set_option linter.unusedVariables false
def esP : LX → List E
  | [] => []
  | [c] => [.lit c]
  | c :: d :: t => if c = 92 then .esc d :: esP t else .lit c :: esP (d :: t)
/-- A text without the backslashes that hold a byte. -/
def unq : LX → LX
  | [] => []
  | [c] => [c]
  | c :: d :: t => if c = 92 then d :: unq t else c :: unq (d :: t)
theorem esP_enc : ∀ p : LX, encs (esP p) = p
  | [] => rfl
  | [c] => rfl
  | c :: d :: t => by
    have h1 := esP_enc t
    have h2 := esP_enc (d :: t)
    rw [esP]
    split
    · rename_i h
      rw [encs_cons, h1, h]; rfl
    · rw [encs_cons, h2]; rfl
theorem esP_one : ∀ p : LX, ∀ e ∈ esP p, e.sem.1 = false ∧ e ≠ .star ∧ e ≠ .any
  | [] => by simp [esP]
  | [c] => by simp [esP, E.sem]
  | c :: d :: t => by
    have h1 := esP_one t
    have h2 := esP_one (d :: t)
    rw [esP]
    intro e he
    split at he
    · rcases List.mem_cons.1 he with rfl | he
      · exact ⟨rfl, by simp, by simp⟩
      · exact h1 e he
    · rcases List.mem_cons.1 he with rfl | he
      · exact ⟨rfl, by simp, by simp⟩
      · exact h2 e he
theorem MM_step (e : E) (r : List E) (c : UInt8) (f : LX) (he : e.sem.1 = false) (hs : ∀ x, e.sem.2 x = (c == x)) (h : ∀ t, MM r t = (t == f)) : ∀ t, MM (e :: r) t = (t == c :: f) := by
  intro t
  cases t with
  | nil =>
    unfold MM
    rw [List.map_cons, M_none _ _ he]; rfl
  | cons y s =>
    have ih := h s
    unfold MM at *
    rw [List.map_cons, M_one _ _ _ _ he, ih, hs]
    show _ = ((y == c) && (s == _))
    rw [show (c == y) = (y == c) by rw [Bool.eq_iff_iff, beq_iff_eq, beq_iff_eq]; exact eq_comm]
theorem MM_end : ∀ t, MM [] t = (t == []) := by
  intro t
  show M [] t = _
  rw [M]
  cases t <;> rfl
theorem esP_match : ∀ p : LX, ∀ t, MM (esP p) t = (t == unq p)
  | [] => MM_end
  | [c] => MM_step (.lit c) [] c [] rfl (fun _ => rfl) MM_end
  | c :: d :: t => by
    have h1 := esP_match t
    have h2 := esP_match (d :: t)
    rw [esP, unq]
    split
    · exact MM_step (.esc d) _ d _ rfl (fun _ => rfl) h1
    · exact MM_step (.lit c) _ c _ rfl (fun _ => rfl) h2
/-- Where a byte that stands for itself may stand, element by element. -/
def PosL : List E → Prop
  | [] => True
  | e :: r => (∀ c, e = .lit c → (c = 91 → (classP (encs (e :: r))).isSome = false) ∧ (c = 92 → (encs (e :: r)).length ≤ 1)) ∧ PosL r
theorem PosL.at_ : ∀ {es : List E}, PosL es → ∀ j (hj : j < es.length) c, es[j] = .lit c → (c = 91 → (classP (encs (es.drop j))).isSome = false) ∧ (c = 92 → (encs (es.drop j)).length ≤ 1)
  | e :: r, h, 0, _, c, hc => h.1 c hc
  | e :: r, h, j + 1, hj, c, hc => PosL.at_ h.2 j (by simpa using hj) c hc
theorem PosL.pos {es : List E} (h : PosL es) : Pos es := by
  intro j hj c hc
  have := h.at_ j hj c hc
  rw [drop_pos]
  refine ⟨this.1, fun h92 => ?_⟩
  have h1 := this.2 h92
  have h2 := congrArg List.length (drop_pos es j)
  rw [List.length_drop] at h2
  have := pos_le es j
  omega
theorem esP_pos : ∀ p : LX, specialP p = false → PosL (esP p) ∧ ∀ e ∈ esP p, e.ok
  | [], _ => ⟨trivial, by simp [esP]⟩
  | [c], h => by
    rw [special_step] at h
    by_cases h1 : c = 42 ∨ c = 63
    · rw [if_pos h1] at h; cases h
    rw [if_neg h1] at h
    refine ⟨⟨fun c' hc => ?_, trivial⟩, fun e he => ?_⟩
    · injection hc with hc
      subst hc
      refine ⟨fun h91 => ?_, fun _ => by simp [encs, E.enc]⟩
      show (classP [c]).isSome = false
      rw [← Bool.not_eq_true]
      intro hs
      rw [if_pos ⟨h91, hs⟩] at h; cases h
    · rw [show esP [c] = [.lit c] from rfl, List.mem_singleton] at he
      subst he
      exact ⟨fun e => h1 (.inl e), fun e => h1 (.inr e)⟩
  | c :: d :: t, h => by
    rw [special_step] at h
    by_cases h1 : c = 42 ∨ c = 63
    · rw [if_pos h1] at h; cases h
    rw [if_neg h1] at h
    by_cases h2 : c = 91 ∧ (classP (c :: d :: t)).isSome = true
    · rw [if_pos h2] at h; cases h
    rw [if_neg h2] at h
    rw [esP]
    by_cases h3 : c = 92
    · rw [if_pos h3] at h ⊢
      obtain ⟨k1, k2⟩ := esP_pos t h
      refine ⟨⟨fun c' hc => (by cases hc), k1⟩, fun e he => ?_⟩
      rcases List.mem_cons.1 he with rfl | he
      · exact trivial
      · exact k2 e he
    · rw [if_neg h3] at h ⊢
      obtain ⟨k1, k2⟩ := esP_pos (d :: t) h
      refine ⟨⟨fun c' hc => ?_, k1⟩, fun e he => ?_⟩
      · injection hc with hc
        subst hc
        refine ⟨fun h91 => ?_, fun h92 => absurd h92 h3⟩
        rw [encs_cons, esP_enc]
        show (classP (c :: d :: t)).isSome = false
        rw [← Bool.not_eq_true]
        exact fun hs => h2 ⟨h91, hs⟩
      · rcases List.mem_cons.1 he with rfl | he
        · exact ⟨fun e => h1 (.inl e), fun e => h1 (.inr e)⟩
        · exact k2 e he
end Go.Proofs.YtbphpijehfcbkaaDoor
