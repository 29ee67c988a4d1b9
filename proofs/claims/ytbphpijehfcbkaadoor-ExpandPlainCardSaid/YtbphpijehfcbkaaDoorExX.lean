/- The document's way of matching, as plain text: a row for each rest of the text. No program in it. -/
import Derived.Test.YtbphpijehfcbkaaDoorExV
namespace Go.Proofs.YtbphpijehfcbkaaDoor
set_option linter.unusedVariables false
abbrev LX := List UInt8
inductive E where
  | star : E
  | any : E
  | esc : UInt8 → E
  | lit : UInt8 → E
def E.sem : E → Bool × (UInt8 → Bool)
  | .star => (true, fun _ => false)
  | .any => (false, fun _ => true)
  | .esc c => (false, fun x => c == x)
  | .lit c => (false, fun x => c == x)
def E.enc : E → LX
  | .star => [42]
  | .any => [63]
  | .esc c => [92, c]
  | .lit c => [c]
def E.ok : E → Prop
  | .lit c => c ≠ 42 ∧ c ≠ 63
  | _ => True
def encs (es : List E) : LX := (es.map E.enc).flatten
def pos (es : List E) (j : Nat) : Nat := (encs (es.take j)).length
def MM (es : List E) (l : LX) : Bool := M (es.map E.sem) l
def val (es : List E) (j : Nat) (l : LX) : Nat := if MM (es.drop j) l = true then 1 else 0
theorem encs_app (a b : List E) : encs (a ++ b) = encs a ++ encs b := by simp [encs]
theorem encs_cons (e : E) (b : List E) : encs (e :: b) = e.enc ++ encs b := by simp [encs]
theorem enc_pos (e : E) : 1 ≤ e.enc.length ∧ e.enc.length ≤ 2 := by cases e <;> simp [E.enc]
theorem encs_split (es : List E) (j : Nat) : encs es = encs (es.take j) ++ encs (es.drop j) := by rw [← encs_app, List.take_append_drop]
theorem drop_pos (es : List E) (j : Nat) : (encs es).drop (pos es j) = encs (es.drop j) := by
  conv => lhs; rw [encs_split es j]
  unfold pos
  exact List.drop_left
theorem pos_le (es : List E) (j : Nat) : pos es j ≤ (encs es).length := by
  rw [encs_split es j, List.length_append]; unfold pos; omega
theorem pos_succ (es : List E) (j : Nat) (h : j < es.length) : pos es (j + 1) = pos es j + es[j].enc.length := by
  unfold pos
  rw [List.take_succ_eq_append_getElem h, encs_app, List.length_append, encs_cons, List.length_append]
  simp [encs]
theorem pos_end (es : List E) : pos es es.length = (encs es).length := by unfold pos; rw [List.take_length]
theorem pos_mono (es : List E) : ∀ {i j : Nat}, i ≤ j → j ≤ es.length → pos es i ≤ pos es j := by
  intro i j hij hj
  induction j with
  | zero => have : i = 0 := by omega
            subst this; exact Nat.le_refl _
  | succ j ih =>
    rcases Nat.lt_or_ge i (j + 1) with h | h
    · have := ih (by omega) (by omega)
      have := pos_succ es j (by omega)
      omega
    · have : i = j + 1 := by omega
      rw [this]; exact Nat.le_refl _
theorem pos_lt (es : List E) (j : Nat) (h : j < es.length) : pos es j < (encs es).length := by
  have := pos_succ es j h
  have := pos_le es (j + 1)
  have := enc_pos es[j]
  omega
theorem byte_at (es : List E) (j k : Nat) (h : j < es.length) (hk : k < es[j].enc.length) : (encs es)[pos es j + k]? = es[j].enc[k]? := by
  have h1 := drop_pos es j
  have h2 : (encs es)[pos es j + k]? = ((encs es).drop (pos es j))[k]? := by rw [List.getElem?_drop]
  rw [h2, h1, List.drop_eq_getElem_cons h, encs_cons, List.getElem?_append_left hk]
/- Nothing left of the text. -/
theorem MM_nil : ∀ (es : List E), (∀ e ∈ es, e.ok) → (MM es [] = true ↔ ∀ b ∈ encs es, b = 42)
  | [], _ => by simp [MM, M, encs]
  | e :: r, hok => by
    have ih := MM_nil r (fun x hx => hok x (by simp [hx]))
    have he := hok e (by simp)
    rw [encs_cons]
    cases e with
    | star =>
      have : MM (.star :: r) [] = MM r [] := by
        unfold MM
        rw [List.map_cons, M_many _ _ _ rfl]
        rfl
      rw [this, ih]
      simp [E.enc]
    | any =>
      have : MM (.any :: r) [] = false := by unfold MM; rw [List.map_cons, M_none _ _ rfl]
      rw [this]
      simp [E.enc]
    | esc c =>
      have : MM (.esc c :: r) [] = false := by unfold MM; rw [List.map_cons, M_none _ _ rfl]
      rw [this]
      simp [E.enc]
    | lit c =>
      have : MM (.lit c :: r) [] = false := by unfold MM; rw [List.map_cons, M_none _ _ rfl]
      rw [this]
      obtain ⟨h1, _⟩ := he
      simp [E.enc, h1]
/-- The first row: noughts, then ones. -/
def row0 (n m : Nat) : List Nat := List.replicate m 0 ++ List.replicate (n + 1 - m) 1
theorem row0_len (n m : Nat) (h : m ≤ n) : (row0 n m).length = n + 1 := by simp [row0]; omega
theorem row0_get (n m q : Nat) (h : m ≤ n) (hq : q ≤ n) : (row0 n m)[q]? = some (if q < m then 0 else 1) := by
  unfold row0
  by_cases hm : q < m
  · rw [List.getElem?_append_left (by simpa using hm), if_pos hm]; simp [hm]
  · rw [List.getElem?_append_right (by simpa using hm), if_neg hm, List.length_replicate, List.getElem?_replicate, if_pos (by omega)]
theorem row0_set (n m : Nat) (h : m + 1 ≤ n) : (row0 n (m + 1)).set m 1 = row0 n m := by
  apply List.ext_getElem?
  intro q
  rcases Nat.lt_or_ge n q with hq | hq
  · rw [List.getElem?_eq_none (by rw [List.length_set, row0_len n _ h]; omega), List.getElem?_eq_none (by rw [row0_len n _ (by omega)]; omega)]
  · rw [row0_get n m q (by omega) hq, List.getElem?_set]
    by_cases hm : m = q
    · subst hm
      rw [if_pos rfl, if_pos (by rw [row0_len n _ h]; omega), if_neg (by omega)]
    · rw [if_neg hm, row0_get n (m + 1) q h hq]
      congr 1
      split <;> split <;> omega
/-- A row says what each place of the pattern stands for. -/
def RowOk (es : List E) (row : List Nat) (l : LX) : Prop := row.length = (encs es).length + 1 ∧ ∀ j, j ≤ es.length → row[pos es j]? = some (val es j l)
theorem row0_ok (es : List E) (hok : ∀ e ∈ es, e.ok) (m : Nat) (hm : m ≤ (encs es).length) (h1 : ∀ q, m ≤ q → q < (encs es).length → (encs es)[q]? = some 42) (h2 : m = 0 ∨ (encs es)[m - 1]? ≠ some 42) : RowOk es (row0 (encs es).length m) [] := by
  refine ⟨row0_len _ _ hm, fun j hj => ?_⟩
  rw [row0_get _ _ _ hm (pos_le es j)]
  congr 1
  have key := MM_nil (es.drop j) (fun e he => hok e (List.mem_of_mem_drop he))
  rw [← drop_pos] at key
  unfold val
  by_cases hp : pos es j < m
  · rw [if_pos hp, if_neg]
    intro h
    have h3 := key.1 h
    rcases h2 with h2 | h2
    · omega
    · apply h2
      have hl : m - 1 < (encs es).length := by omega
      rw [List.getElem?_eq_getElem hl]
      congr 1
      apply h3
      rw [List.mem_iff_getElem?]
      exact ⟨m - 1 - pos es j, by rw [List.getElem?_drop, show pos es j + (m - 1 - pos es j) = m - 1 by omega, List.getElem?_eq_getElem hl]⟩
  · rw [if_neg hp, if_pos]
    apply key.2
    intro b hb
    obtain ⟨q, hq⟩ := List.mem_iff_getElem?.1 hb
    rw [List.getElem?_drop] at hq
    obtain ⟨h3, _⟩ := List.getElem?_eq_some_iff.1 hq
    have := h1 (pos es j + q) (by omega) h3
    rw [hq] at this
    injection this
/-- A row that is being made, from place m on. -/
def RowIn (es : List E) (row : List Nat) (l : LX) (m : Nat) : Prop := row.length = (encs es).length + 1 ∧ (∀ q, q < m → row[q]? = some 0) ∧ ∀ j, j ≤ es.length → m ≤ pos es j → row[pos es j]? = some (val es j l)
theorem rowIn_start (es : List E) (x : UInt8) (t : LX) : RowIn es (List.replicate ((encs es).length + 1) 0) (x :: t) (encs es).length := by
  refine ⟨by simp, fun q hq => by rw [List.getElem?_replicate, if_pos (by omega)], fun j hj hp => ?_⟩
  have hj2 : j = es.length := by
    rcases Nat.lt_or_ge j es.length with h | h
    · have := pos_lt es j h; omega
    · omega
  subst hj2
  rw [pos_end]
  have : val es es.length (x :: t) = 0 := by
    unfold val
    rw [List.drop_length]
    rfl
  rw [this]; simp
theorem rowIn_step {es : List E} {row : List Nat} {l : LX} {i v : Nat} (h : RowIn es row l (i + 1)) (hi : i < (encs es).length) (hv : ∀ j (hj : j < es.length), pos es j = i → v = val es j l) : RowIn es (row.set i v) l i := by
  obtain ⟨h1, h2, h3⟩ := h
  refine ⟨by rw [List.length_set]; exact h1, fun q hq => ?_, fun j hj hp => ?_⟩
  · rw [List.getElem?_set, if_neg (by omega)]
    exact h2 q (by omega)
  · rw [List.getElem?_set]
    by_cases he : i = pos es j
    · have hj2 : j < es.length := by
        rcases Nat.lt_or_ge j es.length with h | h
        · exact h
        · have : j = es.length := by omega
          rw [this, pos_end] at he; omega
      rw [if_pos he, if_pos (by omega), hv j hj2 he.symm]
    · rw [if_neg he]
      exact h3 j hj (by omega)
theorem rowIn_skip {es : List E} {row : List Nat} {l : LX} {i : Nat} (h : RowIn es row l (i + 1)) (hi : i < (encs es).length) (hv : ∀ j (hj : j < es.length), pos es j = i → 0 = val es j l) : RowIn es row l i := by
  have h1 := rowIn_step h hi hv
  have h2 : row.set i 0 = row := by
    apply List.ext_getElem?
    intro q
    rw [List.getElem?_set]
    split
    · rename_i e
      subst e
      rw [if_pos (by rw [h.1]; omega), h.2.1 i (by omega)]
    · rfl
  rw [h2] at h1
  exact h1
theorem rowIn_end {es : List E} {row : List Nat} {l : LX} (h : RowIn es row l 0) : RowOk es row l := ⟨h.1, fun j hj => h.2.2 j hj (Nat.zero_le _)⟩
/- The steps. -/
theorem val_cons (es : List E) (j : Nat) (h : j < es.length) (l : LX) : val es j l = if MM (es[j] :: es.drop (j + 1)) l = true then 1 else 0 := by
  unfold val; rw [List.drop_eq_getElem_cons h]
theorem star_val {es : List E} {now next : List Nat} {x : UInt8} {t : LX} {i a b : Nat} (hn : RowIn es now (x :: t) (i + 1)) (hp : RowOk es next t) (ha : now[i + 1]? = some a) (hb : next[i]? = some b)
    (h42 : (encs es)[i]? = some 42) (hok : ∀ e ∈ es, e.ok) : ∀ j (hj : j < es.length), pos es j = i → max a b = val es j (x :: t) := by
  intro j hj hpj
  have h0 := byte_at es j 0 hj (by have := enc_pos es[j]; omega)
  rw [Nat.add_zero, hpj, h42] at h0
  have hs : es[j] = .star := by
    have ho := hok _ (List.getElem_mem hj)
    generalize es[j] = e at h0 ho
    cases e with
    | star => rfl
    | any => simp [E.enc] at h0
    | esc c => simp [E.enc] at h0
    | lit c => simp [E.enc] at h0; exact absurd h0.symm ho.1
  have h1 := pos_succ es j hj
  rw [hs, hpj] at h1
  have h1' : pos es (j + 1) = i + 1 := h1
  have h2 := hn.2.2 (j + 1) (by omega) (by omega)
  rw [h1', ha] at h2
  injection h2 with h2
  have h3 := hp.2 j (by omega)
  rw [hpj, hb] at h3
  injection h3 with h3
  rw [h2, h3, val_cons es j hj, val_cons es j hj, hs]
  unfold val
  have e1 : MM (.star :: es.drop (j + 1)) (x :: t) = (MM (es.drop (j + 1)) (x :: t) || MM (.star :: es.drop (j + 1)) t) := by
    unfold MM
    rw [List.map_cons, M_many _ _ _ rfl, M_many _ _ _ rfl]
    rfl
  rw [e1]
  cases MM (es.drop (j + 1)) (x :: t) <;> cases MM (.star :: es.drop (j + 1)) t <;> rfl
/-- What one gives, where a place is known. -/
def OneOk (p : LX) (i : Nat) (x : UInt8) (en : Nat) (ok : Bool) : Prop := i < en ∧ en ≤ p.length ∧ (p[i]? = some 63 → en = i + 1 ∧ ok = true) ∧ (∀ c, p[i]? = some 92 → p[i + 1]? = some c → en = i + 2 ∧ ok = (c == x)) ∧ (∀ c, p[i]? = some c → c ≠ 63 → c ≠ 91 → c ≠ 92 → en = i + 1 ∧ ok = (c == x)) ∧ (p[i]? = some 91 → (classP (p.drop i)).isSome = false → en = i + 1 ∧ ok = ((91 : UInt8) == x)) ∧ (p[i]? = some 92 → p.length ≤ i + 1 → en = i + 1 ∧ ok = ((92 : UInt8) == x))
/-- Where a byte that stands for itself may stand. -/
def Pos (es : List E) : Prop := ∀ j (hj : j < es.length) c, es[j] = .lit c → (c = 91 → (classP ((encs es).drop (pos es j))).isSome = false) ∧ (c = 92 → (encs es).length ≤ pos es j + 1)
theorem one_val {es : List E} {next : List Nat} {x : UInt8} {t : LX} {i en : Nat} {ok : Bool} (hp : RowOk es next t) (h42 : (encs es)[i]? ≠ some 42) (hok : ∀ e ∈ es, e.ok) (hPos : Pos es) (h1 : OneOk (encs es) i x en ok) :
    ∀ j (hj : j < es.length), pos es j = i → (ok = true → next[en]? = some (val es j (x :: t))) ∧ (ok = false → 0 = val es j (x :: t)) := by
  intro j hj hpj
  obtain ⟨_, _, q1, q2, q3, q4, q5⟩ := h1
  have hps := hPos j hj
  rw [hpj] at hps
  have h0 := byte_at es j 0 hj (by have := enc_pos es[j]; omega)
  rw [Nat.add_zero, hpj] at h0
  have hsucc := pos_succ es j hj
  rw [hpj] at hsucc
  have hnx := hp.2 (j + 1) (by omega)
  have ho := hok _ (List.getElem_mem hj)
  rw [val_cons es j hj]
  have hby := byte_at es j 1 hj
  rw [hpj] at hby
  have hv : val es (j + 1) t = if MM (es.drop (j + 1)) t = true then 1 else 0 := rfl
  generalize es[j] = e at *
  have fin : e.sem.1 = false → en = i + e.enc.length → ok = e.sem.2 x → (ok = true → next[en]? = some (if MM (e :: es.drop (j + 1)) (x :: t) = true then 1 else 0)) ∧ (ok = false → 0 = if MM (e :: es.drop (j + 1)) (x :: t) = true then 1 else 0) := by
    intro g1 g2 g3
    have e1 : MM (e :: es.drop (j + 1)) (x :: t) = (e.sem.2 x && MM (es.drop (j + 1)) t) := by
      unfold MM
      rw [List.map_cons, M_one _ _ _ _ g1]
    rw [e1, ← g3]
    constructor
    · intro h
      rw [h, Bool.true_and, g2, ← hsucc, hnx, hv]
    · intro h
      rw [h]; rfl
  cases e with
  | star => exact absurd (by rw [h0]; rfl) h42
  | any =>
    obtain ⟨a, b⟩ := q1 (by rw [h0]; rfl)
    exact fin rfl a b
  | esc c =>
    obtain ⟨a, b⟩ := q2 c (by rw [h0]; rfl) (by rw [hby (by simp [E.enc])]; rfl)
    exact fin rfl a b
  | lit c =>
    obtain ⟨o1, o2⟩ := ho
    obtain ⟨p1, p2⟩ := hps c rfl
    by_cases h91 : c = 91
    · obtain ⟨a, b⟩ := q4 (by rw [h0, h91]; rfl) (p1 h91)
      exact fin rfl a (by rw [b, h91]; rfl)
    by_cases h92 : c = 92
    · obtain ⟨a, b⟩ := q5 (by rw [h0, h92]; rfl) (p2 h92)
      exact fin rfl a (by rw [b, h92]; rfl)
    obtain ⟨a, b⟩ := q3 c (by rw [h0]; rfl) o2 h91 h92
    exact fin rfl a b
theorem row_done {es : List E} {row : List Nat} {s : LX} {v : Nat} (h : RowOk es row s) (hv : row[0]? = some v) : (v = 1) ↔ MM es s = true := by
  have h1 := h.2 0 (Nat.zero_le _)
  have h2 : pos es 0 = 0 := rfl
  rw [h2, hv] at h1
  injection h1 with h1
  rw [h1]
  unfold val
  rw [List.drop_zero]
  split <;> simp_all
end Go.Proofs.YtbphpijehfcbkaaDoor
