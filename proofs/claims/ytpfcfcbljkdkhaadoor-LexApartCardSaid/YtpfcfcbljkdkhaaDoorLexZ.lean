/- Tokens that are written with a blank between them are scanned as themselves. No program in it. -/
import Derived.Test.YtpfcfcbljkdkhaaDoorLexY
namespace Go.Proofs.YtpfcfcbljkdkhaaDoor
set_option linter.unusedVariables false
def joinT : List T → LB
  | [] => []
  | t :: r => t.text ++ 32 :: joinT r
def kt (t : T) : Nat × LB := (t.kind, t.text)
theorem cut_at (pre w r : LB) : let t := pre ++ (w ++ 32 :: r)
    pre.length + w.length < t.length ∧ (∀ q, q < w.length → t.getD (pre.length + q) 0 = w.getD q 0) ∧ t.getD (pre.length + w.length) 0 = 32 := by
  intro t
  refine ⟨by simp [t], fun q hq => ?_, ?_⟩
  · simp only [t, List.getD_eq_getElem?_getD]
    rw [List.getElem?_append_right (by omega), Nat.add_sub_cancel_left, List.getElem?_append_left hq]
  · simp only [t, List.getD_eq_getElem?_getD]
    rw [List.getElem?_append_right (by omega), Nat.add_sub_cancel_left, List.getElem?_append_right (Nat.le_refl _), Nat.sub_self]
    rfl
theorem drop_at (pre x : LB) : (pre ++ x).drop pre.length = x := by simp
/-- What the law asks of a token that is written out. -/
def Plain (t : T) : Prop := (t.kind = 1 ∨ t.kind = 2) ∧ Good t.kind t.text ∧ t.text ≠ [60, 60]
theorem here_snoc (l : List T) (t : T) (h : t.text ≠ [60, 60]) : hereT (l ++ [t]) = false := by
  unfold hereT
  rw [List.getLast?_append, List.getLast?_singleton]
  simp only [Option.some_or]
  rw [beq_eq_false_iff_ne.2 h, Bool.and_false]
theorem rescan : ∀ (l : List T), (∀ t ∈ l, Plain t) → ∀ (pre : LB) (done : List T) (f a : Nat), a = pre.length → (pre ++ joinT l).length + 1 ≤ f + a → hereT done = false →
    ∃ out, scanL (pre ++ joinT l) f ⟨a, done, [], 0⟩ = (out, 0, 0) ∧ out.map kt = done.map kt ++ l.map kt ++ [(5, [])]
  | [], hl, pre, done, f, a, ha, hf, hd => by
    subst ha
    obtain ⟨f, rfl⟩ : ∃ g, f = g + 1 := ⟨f - 1, by simp [joinT] at hf; omega⟩
    unfold scanL
    rw [if_pos (by simp [joinT]), if_pos rfl]
    exact ⟨_, rfl, by simp [addS, kt]⟩
  | x :: r, hl, pre, done, f, a, ha, hf, hd => by
    subst ha
    obtain ⟨hk, hg, hx⟩ := hl x (by simp)
    obtain ⟨c1, c2, c3⟩ := cut_at pre x.text (joinT r)
    have hj : joinT (x :: r) = x.text ++ 32 :: joinT r := rfl
    rw [hj] at hf ⊢
    have hpre : pre ++ (x.text ++ 32 :: joinT r) = (pre ++ x.text ++ [32]) ++ joinT r := by simp
    obtain ⟨t, ht⟩ : ∃ t, pre ++ (x.text ++ 32 :: joinT r) = t := ⟨_, rfl⟩
    have hdt : t.drop pre.length = x.text ++ 32 :: joinT r := by rw [← ht]; exact drop_at _ _
    have ht2 : (pre ++ x.text ++ [32]) ++ joinT r = t := by rw [← hpre, ht]
    simp only [ht] at c1 c2 c3
    rw [ht] at hf ⊢
    obtain ⟨gn, gt⟩ := hg
    obtain ⟨b1, b2, b3⟩ := gt t pre.length c1 c2 c3
    obtain ⟨f, rfl⟩ : ∃ g, f = g + 1 := ⟨f - 1, by omega⟩
    have htake : (t.drop pre.length).take x.text.length = x.text := by rw [hdt]; simp
    have hT : tokenS t ⟨pre.length, done, [], 0⟩ = (⟨pre.length + x.text.length, done ++ [⟨x.kind, x.text, pre.length, [], false⟩], [], 0⟩, true) := by
      unfold tokenS
      dsimp only
      rw [if_neg b2]
      rcases b3 with ⟨k2, o2⟩ | ⟨k1, o1, n1, w1⟩
      · rw [o2, if_pos gn]
        simp only [addS, htake, k2]
      · rw [o1, if_neg (Nat.lt_irrefl 0), n1, if_neg (Nat.lt_irrefl 0)]
        unfold wordS
        dsimp only
        rw [w1]
        dsimp only
        rw [if_neg (by decide), if_neg (by omega), hd, if_neg (by decide)]
        simp only [addS, Nat.add_sub_cancel_left, htake, k1]
    have hbl : blankP t (pre.length + x.text.length) = (pre ++ x.text ++ [32]).length := by
      have hlen : (pre ++ x.text ++ [32]).length = pre.length + x.text.length + 1 := by simp; omega
      unfold blankP
      rw [blankL, if_neg (by omega), if_pos (.inl c3), hlen]
      cases r with
      | nil =>
        have htl : t.length = pre.length + x.text.length + 1 := by rw [← ht]; simp [joinT]; omega
        cases hq : t.length with
        | zero => omega
        | succ q => rw [blankL, if_pos (by omega)]
      | cons y r' =>
        obtain ⟨_, hgy, _⟩ := hl y (by simp)
        obtain ⟨d1, d2, d3⟩ := cut_at (pre ++ x.text ++ [32]) y.text (joinT r')
        have hty : (pre ++ x.text ++ [32]) ++ (y.text ++ 32 :: joinT r') = t := ht2
        simp only [hty, hlen] at d1 d2 d3
        exact blank_stay (hgy.2 t _ d1 d2 d3).1 _
    have hlen : (pre ++ x.text ++ [32]).length = pre.length + x.text.length + 1 := by simp; omega
    rw [scanL, if_neg (by dsimp only; omega), hT]
    dsimp only
    rw [if_neg (by decide), hbl]
    obtain ⟨out, e1, e2⟩ := rescan r (fun t ht => hl t (by simp [ht])) (pre ++ x.text ++ [32]) (done ++ [⟨x.kind, x.text, pre.length, [], false⟩]) f _ rfl (by rw [ht2]; omega) (here_snoc done _ hx)
    rw [ht2] at e1
    exact ⟨out, e1, by rw [e2]; simp [kt]⟩
/-- The text of tokens, a blank behind each, is scanned as these tokens. -/
theorem rescan_all (l : List T) (hl : ∀ t ∈ l, Plain t) (hs : (joinT l).length ≤ 4096) : ∃ out, scanP (joinT l) = (out, 0, 0) ∧ out.map kt = l.map kt ++ [(5, [])] := by
  have hb : blankP (joinT l) 0 = 0 := by
    cases l with
    | nil => rfl
    | cons y r =>
      obtain ⟨_, hgy, _⟩ := hl y (by simp)
      obtain ⟨d1, d2, d3⟩ := cut_at [] y.text (joinT r)
      have := blank_stay (hgy.2 (joinT (y :: r)) 0 (by simp [joinT]) (fun q hq => by simpa [joinT] using d2 q hq) (by simp [joinT])).1 ((joinT (y :: r)).length + 1)
      exact this
  unfold scanP
  rw [if_neg (by omega), hb]
  obtain ⟨out, e1, e2⟩ := rescan l hl [] [] ((joinT l).length + 1) 0 rfl (by simp) rfl
  exact ⟨out, e1, by simpa using e2⟩
theorem joinT_len : ∀ (l : List T), (joinT l).length = (l.map fun t => t.text.length + 1).sum
  | [] => rfl
  | t :: r => by simp [joinT, joinT_len r]; omega
theorem joinT_snoc : ∀ (l : List T) (t : T), joinT (l ++ [t]) = joinT l ++ (t.text ++ [32])
  | [], t => by simp [joinT]
  | x :: r, t => by simp [joinT, joinT_snoc r t]
/-- Tokens that rise have no more bytes than the text, and a blank each. -/
theorem rise_len {p : LB} : ∀ (l : List T) (lo : Nat), Rise p lo (l.map key) p.length → lo + (joinT l).length ≤ p.length + l.length
  | [], lo, h => by simp only [List.map_nil, Rise] at h; simp [joinT]; omega
  | t :: r, lo, h => by
    obtain ⟨h1, h2, h3⟩ := h
    have := rise_len r _ h3
    simp only [key] at h1 this
    simp [joinT]
    omega
end Go.Proofs.YtpfcfcbljkdkhaaDoor
