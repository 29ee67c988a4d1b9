/- A line's words: the program's fields and where they begin, the document's loop. No program in it. -/
import Derived.Test.YtnongbbhpkmdjaaFldS
namespace Go.Proofs.Ytnongbbhpkmdjaa
set_option linter.unusedVariables false
def st (F : List Fd) (B : List Nat) (o : Bool) (t : LB) (cl : Bool) (n : Nat) : CS := ⟨F, B, [], t, o, cl, n⟩
def fd (t : LB) : Fd := if t = [] then [] else [(t, false)]
section
variable {ifs : LB} {c : UInt8} {F : List Fd} {B : List Nat} {t : LB} {cl : Bool} {n : Nat}
theorem b1o (h : kindP ifs c = 1) : (st F B true t cl n).byte ifs c = st (F ++ [fd t]) B false [] true (n + 1) := by
  unfold CS.byte; rw [h]; by_cases ht : t = [] <;> simp [st, CS.close, CS.flush, fd, ht]
theorem b1c (h : kindP ifs c = 1) : (st F B false [] cl n).byte ifs c = st F B false [] cl (n + 1) := by
  unfold CS.byte; rw [h]; simp [st, CS.close]
theorem b2o (h : kindP ifs c = 2) : (st F B true t cl n).byte ifs c = st (F ++ [fd t]) B false [] false (n + 1) := by
  unfold CS.byte; rw [h]; simp [st, CS.close, CS.flush, fd]
theorem b2n (h : kindP ifs c = 2) : (st F B false [] false n).byte ifs c = st (F ++ [[]]) (B ++ [n]) false [] false (n + 1) := by
  unfold CS.byte; rw [h]; simp [st, CS.close, CS.flush, CS.enter]
theorem b2c (h : kindP ifs c = 2) : (st F B false [] true n).byte ifs c = st F B false [] false (n + 1) := by
  unfold CS.byte; rw [h]; simp [st, CS.close]
theorem b0o (h : kindP ifs c = 0) : (st F B true t cl n).byte ifs c = st F B true (t ++ [c]) cl (n + 1) := by
  unfold CS.byte; rw [h]; simp [st, CS.plain, CS.enter]
theorem b0n (h : kindP ifs c = 0) : (st F B false [] cl n).byte ifs c = st F (B ++ [n]) true [c] cl (n + 1) := by
  unfold CS.byte; rw [h]; simp [st, CS.plain, CS.enter]
end
theorem kind_le (ifs : LB) (c : UInt8) : kindP ifs c = 0 ∨ kindP ifs c = 1 ∨ kindP ifs c = 2 := by
  unfold kindP; split
  · split <;> simp
  · simp
def softC (ifs : LB) (t : LB) (s : CS) : CS := t.foldl (fun s c => s.byte ifs c) s
def sk1 (ifs : LB) (t : LB) : LB := t.dropWhile fun c => kindP ifs c == 1
def w0 (ifs : LB) (t : LB) : LB := t.takeWhile fun c => kindP ifs c == 0
def r0 (ifs : LB) (t : LB) : LB := t.dropWhile fun c => kindP ifs c == 0
def nextF (ifs : LB) (t : LB) : LB := match sk1 ifs (r0 ifs t) with
  | [] => []
  | c :: r => if kindP ifs c = 2 then sk1 ifs r else c :: r
def FB (ifs : LB) (t : LB) (s : CS) : List Fd × List Nat := ((softC ifs t s).close.fields, (softC ifs t s).close.begins)
theorem sk1_len (ifs : LB) (t : LB) : (sk1 ifs t).length ≤ t.length := (List.dropWhile_sublist _).length_le
theorem r0_len (ifs : LB) (t : LB) : (w0 ifs t).length + (r0 ifs t).length = t.length := by
  have := congrArg List.length (List.takeWhile_append_dropWhile (p := fun c => kindP ifs c == 0) (l := t))
  rw [List.length_append] at this
  exact this
theorem white_run (ifs : LB) (F : List Fd) (B : List Nat) (cl : Bool) : ∀ (t : LB) (n : Nat), softC ifs t (st F B false [] cl n) = softC ifs (sk1 ifs t) (st F B false [] cl (n + (t.length - (sk1 ifs t).length)))
  | [], n => rfl
  | c :: r, n => by
    by_cases h : kindP ifs c = 1
    · have e : sk1 ifs (c :: r) = sk1 ifs r := by unfold sk1; rw [List.dropWhile_cons]; simp [h]
      have hl := sk1_len ifs r
      rw [e]
      show softC ifs r ((st F B false [] cl n).byte ifs c) = _
      rw [b1c h, white_run ifs F B cl r (n + 1)]
      congr 2
      simp; omega
    · have e : sk1 ifs (c :: r) = c :: r := by unfold sk1; rw [List.dropWhile_cons]; simp [h]
      rw [e, Nat.sub_self, Nat.add_zero]
theorem word_run (ifs : LB) (F : List Fd) (B : List Nat) (cl : Bool) : ∀ (t x : LB) (n : Nat), softC ifs t (st F B true x cl n) = softC ifs (r0 ifs t) (st F B true (x ++ w0 ifs t) cl (n + (w0 ifs t).length))
  | [], x, n => by simp [softC, r0, w0]
  | c :: r, x, n => by
    by_cases h : kindP ifs c = 0
    · have e : r0 ifs (c :: r) = r0 ifs r := by unfold r0; rw [List.dropWhile_cons]; simp [h]
      have e2 : w0 ifs (c :: r) = c :: w0 ifs r := by unfold w0; rw [List.takeWhile_cons]; simp [h]
      rw [e, e2]
      show softC ifs r ((st F B true x cl n).byte ifs c) = _
      rw [b0o h, word_run ifs F B cl r _ (n + 1)]
      congr 2
      · simp
      · simp; omega
    · have e : r0 ifs (c :: r) = c :: r := by unfold r0; rw [List.dropWhile_cons]; simp [h]
      have e2 : w0 ifs (c :: r) = [] := by unfold w0; rw [List.takeWhile_cons]; simp [h]
      rw [e, e2]; simp
theorem open_any (ifs : LB) (F : List Fd) (B : List Nat) : ∀ (t x : LB) (n : Nat), FB ifs t (st F B true x true n) = FB ifs t (st F B true x false n)
  | [], x, n => rfl
  | c :: r, x, n => by
    show FB ifs r ((st F B true x true n).byte ifs c) = FB ifs r ((st F B true x false n).byte ifs c)
    rcases kind_le ifs c with h | h | h
    · rw [b0o h, b0o h]; exact open_any ifs F B r _ _
    · rw [b1o h, b1o h]
    · rw [b2o h, b2o h]
theorem shut_any (ifs : LB) (F : List Fd) (B : List Nat) (t : LB) (n : Nat) (h : ∀ c r, t = c :: r → kindP ifs c = 0) : FB ifs t (st F B false [] true n) = FB ifs t (st F B false [] false n) := by
  cases t with
  | nil => rfl
  | cons c r =>
    show FB ifs r ((st F B false [] true n).byte ifs c) = FB ifs r ((st F B false [] false n).byte ifs c)
    rw [b0n (h c r rfl), b0n (h c r rfl)]
    exact open_any ifs F _ r _ _
theorem sk1_head (ifs : LB) (t : LB) : ∀ c r, sk1 ifs t = c :: r → kindP ifs c ≠ 1 := by
  induction t with
  | nil => intro c r h; cases h
  | cons x y ih =>
    intro c r h
    unfold sk1 at h ih
    rw [List.dropWhile_cons] at h
    by_cases hx : kindP ifs x = 1
    · simp [hx] at h; exact ih c r h
    · simp [hx] at h; rw [← h.1]; exact hx
theorem FB_congr {ifs t : LB} {s s' : CS} (h : s = s') : FB ifs t s = FB ifs t s' := by rw [h]
/-- Behind a field: white bytes, a hard one and white ones; where the text goes on. -/
theorem gap_run (ifs : LB) (F : List Fd) (B : List Nat) (u : LB) (n : Nat) : FB ifs (sk1 ifs u) (st F B false [] true n) = FB ifs (match sk1 ifs u with
  | [] => []
  | c :: r => if kindP ifs c = 2 then sk1 ifs r else c :: r) (st F B false [] false (n + ((sk1 ifs u).length - (match sk1 ifs u with
  | [] => ([] : LB)
  | c :: r => if kindP ifs c = 2 then sk1 ifs r else c :: r).length))) := by
  have hh := sk1_head ifs u
  cases hu : sk1 ifs u with
  | nil => rfl
  | cons c r =>
    have hc := hh c r hu
    dsimp only
    rcases kind_le ifs c with h | h | h
    · rw [if_neg (by omega), Nat.sub_self, Nat.add_zero]
      exact shut_any ifs F B _ n (fun c' r' e => by injection e with e1 e2; rw [← e1]; exact h)
    · exact absurd h hc
    · rw [if_pos h]
      show FB ifs r ((st F B false [] true n).byte ifs c) = _
      rw [b2c h]
      unfold FB
      rw [white_run ifs F B false r (n + 1)]
      have hl := sk1_len ifs r
      have e : n + 1 + (r.length - (sk1 ifs r).length) = n + ((c :: r).length - (sk1 ifs r).length) := by simp; omega
      rw [e]
theorem sk1_cons1 {ifs : LB} {c : UInt8} (r : LB) (h : kindP ifs c = 1) : sk1 ifs (c :: r) = sk1 ifs r := by unfold sk1; rw [List.dropWhile_cons]; simp [h]
theorem sk1_consN {ifs : LB} {c : UInt8} (r : LB) (h : kindP ifs c ≠ 1) : sk1 ifs (c :: r) = c :: r := by unfold sk1; rw [List.dropWhile_cons]; simp [h]
theorem r0_cons0 {ifs : LB} {c : UInt8} (r : LB) (h : kindP ifs c = 0) : r0 ifs (c :: r) = r0 ifs r := by unfold r0; rw [List.dropWhile_cons]; simp [h]
theorem r0_consN {ifs : LB} {c : UInt8} (r : LB) (h : kindP ifs c ≠ 0) : r0 ifs (c :: r) = c :: r := by unfold r0; rw [List.dropWhile_cons]; simp [h]
theorem w0_cons0 {ifs : LB} {c : UInt8} (r : LB) (h : kindP ifs c = 0) : w0 ifs (c :: r) = c :: w0 ifs r := by unfold w0; rw [List.takeWhile_cons]; simp [h]
theorem w0_consN {ifs : LB} {c : UInt8} (r : LB) (h : kindP ifs c ≠ 0) : w0 ifs (c :: r) = [] := by unfold w0; rw [List.takeWhile_cons]; simp [h]
theorem r0_head (ifs : LB) (t : LB) : ∀ c r, r0 ifs t = c :: r → kindP ifs c ≠ 0 := by
  induction t with
  | nil => intro c r h; cases h
  | cons x y ih =>
    intro c r h
    by_cases hx : kindP ifs x = 0
    · rw [r0_cons0 y hx] at h; exact ih c r h
    · rw [r0_consN y hx] at h; injection h with h1 h2; rw [← h1]; exact hx
/-- One field of a line. -/
theorem field_step (ifs : LB) (F : List Fd) (B : List Nat) (c : UInt8) (r : LB) (n : Nat) (hk : kindP ifs c ≠ 1) :
    ∃ m, FB ifs (c :: r) (st F B false [] false n) = FB ifs (nextF ifs (c :: r)) (st (F ++ [fd (w0 ifs (c :: r))]) (B ++ [n]) false [] false m) ∧ (nextF ifs (c :: r) ≠ [] → m + (nextF ifs (c :: r)).length = n + (c :: r).length) := by
  rcases kind_le ifs c with h | h | h
  · have hl := r0_len ifs r
    have e : FB ifs (c :: r) (st F B false [] false n) = FB ifs (r0 ifs r) (st F (B ++ [n]) true (c :: w0 ifs r) false (n + 1 + (w0 ifs r).length)) := by
      show FB ifs r ((st F B false [] false n).byte ifs c) = _
      rw [b0n h]
      unfold FB
      rw [word_run ifs F (B ++ [n]) false r [c] (n + 1)]
      rfl
    rw [e, w0_cons0 r h]
    unfold nextF
    rw [r0_cons0 r h]
    have hh := r0_head ifs r
    cases hr : r0 ifs r with
    | nil =>
      refine ⟨0, ?_, fun hx => absurd rfl hx⟩
      simp [FB, softC, sk1, st, CS.close, CS.flush, fd]
    | cons d u =>
      have hd := hh d u hr
      rw [hr] at hl
      have hw : ∀ cl k, FB ifs u (st (F ++ [fd (c :: w0 ifs r)]) (B ++ [n]) false [] cl k) = FB ifs (sk1 ifs u) (st (F ++ [fd (c :: w0 ifs r)]) (B ++ [n]) false [] cl (k + (u.length - (sk1 ifs u).length))) := fun cl k => by unfold FB; rw [white_run]
      have hul := sk1_len ifs u
      rcases kind_le ifs d with h2 | h2 | h2
      · exact absurd h2 hd
      · rw [sk1_cons1 u h2]
        have hg : (match sk1 ifs u with | [] => ([] : LB) | c :: r => if kindP ifs c = 2 then sk1 ifs r else c :: r).length ≤ (sk1 ifs u).length := by
          cases sk1 ifs u with
          | nil => exact Nat.le_refl _
          | cons a v =>
            have := sk1_len ifs v
            dsimp only
            split
            · simp; omega
            · exact Nat.le_refl _
        have hgap := gap_run ifs (F ++ [fd (c :: w0 ifs r)]) (B ++ [n]) u (n + 1 + (w0 ifs r).length + 1 + (u.length - (sk1 ifs u).length))
        have h1 : FB ifs (d :: u) (st F (B ++ [n]) true (c :: w0 ifs r) false (n + 1 + (w0 ifs r).length)) = FB ifs (sk1 ifs u) (st (F ++ [fd (c :: w0 ifs r)]) (B ++ [n]) false [] true (n + 1 + (w0 ifs r).length + 1 + (u.length - (sk1 ifs u).length))) := by
          show FB ifs u ((st F (B ++ [n]) true (c :: w0 ifs r) false _).byte ifs d) = _
          rw [b1o h2, hw]
        generalize (match sk1 ifs u with | [] => ([] : LB) | c :: r => if kindP ifs c = 2 then sk1 ifs r else c :: r) = G at *
        refine ⟨_, h1.trans hgap, fun _ => ?_⟩
        simp at hl ⊢
        omega
      · rw [sk1_consN u (by omega)]
        dsimp only
        rw [if_pos h2]
        have h1 : FB ifs (d :: u) (st F (B ++ [n]) true (c :: w0 ifs r) false (n + 1 + (w0 ifs r).length)) = FB ifs (sk1 ifs u) (st (F ++ [fd (c :: w0 ifs r)]) (B ++ [n]) false [] false (n + 1 + (w0 ifs r).length + 1 + (u.length - (sk1 ifs u).length))) := by
          show FB ifs u ((st F (B ++ [n]) true (c :: w0 ifs r) false _).byte ifs d) = _
          rw [b2o h2, hw]
        refine ⟨_, h1, fun _ => ?_⟩
        simp at hl ⊢
        omega
  · exact absurd h hk
  · have e : FB ifs (c :: r) (st F B false [] false n) = FB ifs (sk1 ifs r) (st (F ++ [[]]) (B ++ [n]) false [] false (n + 1 + (r.length - (sk1 ifs r).length))) := by
      show FB ifs r ((st F B false [] false n).byte ifs c) = _
      rw [b2n h]
      unfold FB
      rw [white_run]
    have hl := sk1_len ifs r
    have en : nextF ifs (c :: r) = sk1 ifs r := by
      unfold nextF
      rw [r0_consN r (by omega), sk1_consN r hk]
      dsimp only
      rw [if_pos h]
    rw [e, en, w0_consN r (by omega)]
    exact ⟨_, rfl, fun _ => by simp; omega⟩
def txt (f : Fd) : LB := (f.map (·.1)).flatten
theorem txt_fd (t : LB) : txt (fd t) = t := by unfold txt fd; split <;> simp_all
/-- The document's words of a line: k of them at most, and what is left. -/
def wordsF (ifs : LB) : Nat → LB → List LB × LB
  | 0, t => ([], t)
  | _ + 1, [] => ([], [])
  | k + 1, c :: r => (w0 ifs (c :: r) :: (wordsF ifs k (nextF ifs (c :: r))).1, (wordsF ifs k (nextF ifs (c :: r))).2)
theorem nextF_head (ifs : LB) (t : LB) : ∀ c r, nextF ifs t = c :: r → kindP ifs c ≠ 1 := by
  intro c r h
  unfold nextF at h
  split at h
  · cases h
  · rename_i d u hd
    split at h
    · exact sk1_head ifs u c r h
    · injection h with h1 h2; rw [← h1]; exact sk1_head ifs _ d u hd
theorem line_words (ifs : LB) (L : Nat) : ∀ (k : Nat) (t : LB) (F : List Fd) (B : List Nat) (n : Nat), (t ≠ [] → n + t.length = L) → (∀ c r, t = c :: r → kindP ifs c ≠ 1) →
    ∃ (F' : List Fd) (B' : List Nat) (m : Nat), FB ifs t (st F B false [] false n) = FB ifs (wordsF ifs k t).2 (st (F ++ F') (B ++ B') false [] false m) ∧ F'.map txt = (wordsF ifs k t).1 ∧ B'.length = F'.length ∧ F'.length ≤ k ∧
      ((wordsF ifs k t).2 ≠ [] → F'.length = k ∧ m + (wordsF ifs k t).2.length = L ∧ ∀ c r, (wordsF ifs k t).2 = c :: r → kindP ifs c ≠ 1)
  | 0, t, F, B, n, hn, hh => ⟨[], [], n, by simp [wordsF], rfl, rfl, Nat.le_refl _, fun h => ⟨rfl, hn h, hh⟩⟩
  | k + 1, [], F, B, n, hn, hh => ⟨[], [], n, by simp [wordsF], rfl, rfl, Nat.zero_le _, fun h => absurd rfl h⟩
  | k + 1, c :: r, F, B, n, hn, hh => by
    obtain ⟨m, h1, h2⟩ := field_step ifs F B c r n (hh c r rfl)
    have h3 := hn (by simp)
    obtain ⟨F', B', m', g1, g2, g3, g4, g5⟩ := line_words ifs L k (nextF ifs (c :: r)) (F ++ [fd (w0 ifs (c :: r))]) (B ++ [n]) m (fun h => (h2 h).trans h3) (nextF_head ifs _)
    refine ⟨fd (w0 ifs (c :: r)) :: F', n :: B', m', ?_, ?_, by simp [g3], by simp; omega, fun h => ?_⟩
    · rw [h1, g1]
      show _ = FB ifs (wordsF ifs k (nextF ifs (c :: r))).2 _
      simp
    · show txt (fd (w0 ifs (c :: r))) :: F'.map txt = _
      rw [txt_fd, g2]; rfl
    · obtain ⟨a1, a2, a3⟩ := g5 h
      exact ⟨by simp [a1], a2, a3⟩
theorem enter_grow (s : CS) : s.enter.fields = s.fields ∧ ∃ Y, s.enter.begins = s.begins ++ Y := by
  unfold CS.enter
  split
  · exact ⟨rfl, [], by simp⟩
  · exact ⟨rfl, [s.counted], rfl⟩
theorem close_grow (s : CS) : (∃ X, s.close.fields = s.fields ++ X) ∧ s.close.begins = s.begins := by
  unfold CS.close
  split
  · exact ⟨⟨[s.flush.pieces], rfl⟩, rfl⟩
  · exact ⟨⟨[], by simp⟩, rfl⟩
def Grow (s s' : CS) : Prop := (∃ X, s'.fields = s.fields ++ X) ∧ ∃ Y, s'.begins = s.begins ++ Y
theorem Grow.trans {a b c : CS} (h : Grow a b) (k : Grow b c) : Grow a c := by
  obtain ⟨⟨X, hX⟩, Y, hY⟩ := h
  obtain ⟨⟨X', hX'⟩, Y', hY'⟩ := k
  exact ⟨⟨X ++ X', by rw [hX', hX, List.append_assoc]⟩, Y ++ Y', by rw [hY', hY, List.append_assoc]⟩
theorem Grow.rfl' (s : CS) : Grow s s := ⟨⟨[], by simp⟩, [], by simp⟩
theorem grow_enter (s : CS) : Grow s s.enter := ⟨⟨[], by rw [(enter_grow s).1]; simp⟩, (enter_grow s).2⟩
theorem grow_close (s : CS) : Grow s s.close := ⟨(close_grow s).1, [], by rw [(close_grow s).2]; simp⟩
theorem grow_byte (ifs : LB) (s : CS) (c : UInt8) : Grow s (s.byte ifs c) := by
  unfold CS.byte
  split
  · exact grow_close { s with closed := s.closed || s.op }
  · have h : Grow s (if !s.op && !s.closed then s.enter else s) := by split; exact grow_enter s; exact Grow.rfl' s
    exact h.trans (grow_close _)
  · unfold CS.plain
    split
    · exact Grow.rfl' s
    · exact grow_enter s
theorem grow_soft (ifs : LB) : ∀ (t : LB) (s : CS), Grow s (softC ifs t s)
  | [], s => Grow.rfl' s
  | c :: r, s => (grow_byte ifs s c).trans (grow_soft ifs r _)
theorem grow_FB (ifs t : LB) (s : CS) : (∃ X, (FB ifs t s).1 = s.fields ++ X) ∧ ∃ Y, (FB ifs t s).2 = s.begins ++ Y := (grow_soft ifs t s).trans (grow_close _)
theorem nextF_suf (ifs t : LB) : nextF ifs t <:+ t := by
  have h1 : sk1 ifs (r0 ifs t) <:+ t := (List.dropWhile_suffix _).trans (List.dropWhile_suffix _)
  unfold nextF
  split
  · exact List.nil_suffix
  · rename_i d u hd
    rw [hd] at h1
    split
    · exact ((List.dropWhile_suffix _).trans (List.suffix_cons d u)).trans h1
    · exact h1
theorem wordsF_suf (ifs : LB) : ∀ (k : Nat) (t : LB), (wordsF ifs k t).2 <:+ t
  | 0, t => List.suffix_refl t
  | _ + 1, [] => List.suffix_refl []
  | k + 1, c :: r => (wordsF_suf ifs k _).trans (nextF_suf ifs _)
/-- What a line comes to: k full words, and either nothing is left, or the program's k-th field begins where the rest does. -/
theorem line_facts (ifs p : LB) (k : Nat) : ∃ (G : List Fd) (H : List Nat), FB ifs p (st [] [] false [] false 0) = (G, H) ∧
    (let r := (wordsF ifs k (sk1 ifs p)).2
     let l := (wordsF ifs k (sk1 ifs p)).1
     (r = [] → G.map txt = l ∧ H.length = G.length ∧ G.length ≤ k) ∧
     (r ≠ [] → (G.map txt).take k = l ∧ l.length = k ∧ k < H.length ∧ p.drop (H.getD k 0) = r)) := by
  have hs := sk1_len ifs p
  have e0 : FB ifs p (st [] [] false [] false 0) = FB ifs (sk1 ifs p) (st [] [] false [] false (p.length - (sk1 ifs p).length)) := by
    unfold FB
    rw [white_run, Nat.zero_add]
  obtain ⟨F', B', m, g1, g2, g3, g4, g5⟩ := line_words ifs p.length k (sk1 ifs p) [] [] (p.length - (sk1 ifs p).length) (fun _ => by omega) (sk1_head ifs p)
  refine ⟨(FB ifs p (st [] [] false [] false 0)).1, (FB ifs p (st [] [] false [] false 0)).2, rfl, ?_⟩
  rw [e0, g1]
  dsimp only
  have hsuf := (wordsF_suf ifs k (sk1 ifs p)).trans (List.dropWhile_suffix _ : sk1 ifs p <:+ p)
  generalize (wordsF ifs k (sk1 ifs p)).2 = r at *
  generalize (wordsF ifs k (sk1 ifs p)).1 = l at *
  constructor
  · intro hr
    subst hr
    have : FB ifs [] (st ([] ++ F') ([] ++ B') false [] false m) = (F', B') := by simp [FB, softC, st, CS.close]
    rw [this]
    exact ⟨g2, g3, g4⟩
  · intro hr
    obtain ⟨a1, a2, a3⟩ := g5 hr
    cases r with
    | nil => exact absurd rfl hr
    | cons c u =>
      obtain ⟨m2, f1, _⟩ := field_step ifs ([] ++ F') ([] ++ B') c u m (a3 c u rfl)
      rw [f1]
      obtain ⟨⟨X, hX⟩, Y, hY⟩ := grow_FB ifs (nextF ifs (c :: u)) (st ([] ++ F' ++ [fd (w0 ifs (c :: u))]) ([] ++ B' ++ [m]) false [] false m2)
      rw [hX, hY]
      have hll : l.length = k := by rw [← g2]; simpa using a1
      have hm : p.drop m = c :: u := by
        have := List.suffix_iff_eq_drop.1 hsuf
        rw [this]
        congr 1
        have := hsuf.length_le
        simp at a2 this ⊢
        omega
      refine ⟨?_, hll, by simp [st, g3, a1], ?_⟩
      · simp only [st, List.nil_append, List.map_append, List.append_assoc, g2]
        rw [← hll, List.take_left]
      · have : ((st ([] ++ F' ++ [fd (w0 ifs (c :: u))]) ([] ++ B' ++ [m]) false [] false m2).begins ++ Y).getD k 0 = m := by
          simp [st, List.getD_eq_getElem?_getD, g3, a1]
        rw [this]
        exact hm
end Go.Proofs.Ytnongbbhpkmdjaa
