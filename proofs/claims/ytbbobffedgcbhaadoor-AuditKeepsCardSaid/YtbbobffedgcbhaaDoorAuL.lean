/- What opening, writing and a crash leave, as plain data. -/
import Derived.Test.YtbbobffedgcbhaaDoorAuHp
namespace Go.Proofs.YtbbobffedgcbhaaDoor
set_option linter.unusedVariables false
theorem valid_seq {r : Rec} (hv : validP r = true) {k : Nat} (hk : k ≤ 1000000) : validP { r with seq := (k : Int) } = true := by
  obtain ⟨q, op, p, p2, g, al⟩ := r
  unfold validP seqOk at *
  simp only [Bool.and_eq_true, decide_eq_true_eq] at *
  exact ⟨by omega, hv.2⟩
theorem scanB_again (b : LB) : scanB (b.take (scanB b).2.2) = scanB b := by
  obtain ⟨h1, h2, h3⟩ := scanB_take b
  have h4 : lenP (scanB b).1 = (scanB b).2.2 := scan_lenP _ _ _ _
  have h := scanB_all _ h3
  rw [← h1, ← h2, h4] at h
  exact h
theorem opP_ok (b : LB) {room arm : Int} (h1 : (b.length : Int) ≤ room) (h2 : room ≤ 1048576) (h3 : -1 ≤ arm) : okL (opP b room arm) = true := by
  have he := scanB_end b
  unfold opP
  refine okL_join ?_ ?_ ?_ (.inr ?_)
  · unfold Dk.okD
    dsimp only
    rw [List.length_take]
    rw [decide_eq_true_eq]
    simp only [List.length_nil]
    omega
  · dsimp only; rw [scanB_again]
  · dsimp only; rw [scanB_again]
  · dsimp only; rw [scanB_again, List.length_take]; exact ⟨by omega, rfl, rfl⟩
/-- What a log that has not stopped is. -/
theorem okL_live {s p hash : LB} {room arm : Int} {dead : Bool} {q : Nat} (hok : okL ⟨s, p, room, dead, arm, (q : Int), hash, false⟩ = true) :
    (0 ≤ room ∧ room ≤ 1048576 ∧ (s.length : Int) ≤ room ∧ -1 ≤ arm) ∧ p = [] ∧ dead = false ∧ (scanB s).2.1 = hash ∧ (scanB s).1.length = q ∧ (scanB s).2.2 = s.length := by
  obtain ⟨h1, h2, h3, h4⟩ := okL_split hok
  dsimp only at h1 h2 h3 h4
  rcases h4 with h4 | ⟨h4, h5, h6⟩
  · cases h4
  · unfold Dk.okD at h1
    rw [decide_eq_true_eq] at h1
    exact ⟨⟨h1.1, h1.2.1, by omega, h1.2.2.2⟩, by simpa using h5, h6, h3, by omega, h4⟩
theorem scan_next {s hash : LB} {r : Rec} (h1 : (scanB s).2.1 = hash) (h2 : (scanB s).2.2 = s.length) (hV : validP r = true) (hq : r.seq = ((scanB s).1.length : Int)) :
    scanB (s ++ entP hash r) = ((scanB s).1 ++ [r], digP hash (encP r), s.length + (entP hash r).length) := by
  have h := scanB_goes s hV hq
  rw [h1, h2, List.take_length] at h
  exact h
theorem okL_next {s hash : LB} {room arm : Int} {q : Nat} {r : Rec} (h1 : (scanB s).2.1 = hash) (h2 : (scanB s).2.2 = s.length) (h3 : (scanB s).1.length = q) (hV : validP r = true) (hq : r.seq = (q : Int)) (hr1 : 0 ≤ room) (hr2 : room ≤ 1048576) (hfit : (s.length : Int) + (entP hash r).length ≤ room) (ha : -1 ≤ arm) :
    okL ⟨s ++ entP hash r, [], room, false, arm, (q : Int) + 1, digP hash (encP r), false⟩ = true := by
  have h := scan_next h1 h2 hV (by rw [hq, h3])
  refine okL_join ?_ ?_ ?_ (.inr ?_)
  · unfold Dk.okD
    dsimp only
    rw [List.length_append, decide_eq_true_eq]
    simp only [List.length_nil]
    omega
  · dsimp only; rw [h]; dsimp only; rw [List.length_append, h3]; simp
  · dsimp only; rw [h]
  · dsimp only; rw [h, List.length_append]; exact ⟨rfl, rfl, rfl⟩
theorem okL_fail {s p hash : LB} {room arm : Int} {dead : Bool} {q : Nat} (h1 : (scanB s).2.1 = hash) (h3 : (scanB s).1.length = q) (hr1 : 0 ≤ room) (hr2 : room ≤ 1048576) (hfit : (s.length : Int) + p.length ≤ room) (ha : -1 ≤ arm) :
    okL ⟨s, p, room, dead, arm, (q : Int), hash, true⟩ = true := by
  refine okL_join ?_ ?_ ?_ (.inl rfl)
  · unfold Dk.okD
    dsimp only
    rw [decide_eq_true_eq]
    omega
  · dsimp only; rw [h3]
  · dsimp only; rw [h1]
theorem cuts_app (P : List Rec) (r : Rec) : ∀ j, cutsP (P ++ [r]) (lenP P + j) = P.length + (if 2 + (encP r).length + 32 ≤ j then 1 else 0) := by
  induction P with
  | nil => intro j; rw [List.nil_append, cutsP, lenP, Nat.zero_add]; simp [cutsP]
  | cons x l ih =>
    intro j
    rw [List.cons_append, cutsP, lenP, if_pos (by omega), show 2 + (encP x).length + 32 + lenP l + j - (2 + (encP x).length + 32) = lenP l + j by omega, ih, List.length_cons]
    omega
/-- What a crash leaves of an entry that was not synced. -/
theorem scan_crash {s hash : LB} {r : Rec} (h1 : (scanB s).2.1 = hash) (h2 : (scanB s).2.2 = s.length) (hV : validP r = true) (hq : r.seq = ((scanB s).1.length : Int)) (j : Nat) :
    (scanB (s ++ (entP hash r).take j)).1 = (scanB s).1 ∨ (scanB (s ++ (entP hash r).take j)).1 = (scanB s).1 ++ [r] := by
  obtain ⟨t1, t2, t3⟩ := scanB_take s
  have h4 : lenP (scanB s).1 = (scanB s).2.2 := scan_lenP _ _ _ _
  have hk : okP 0 ((scanB s).1 ++ [r]) := (ok_append _ _ _).2 ⟨t3, hV, by rw [hq]; simp, trivial⟩
  have he : s ++ entP hash r = allP zero32 ((scanB s).1 ++ [r]) := by
    rw [all_append, ← t1, ← t2, h2, List.take_length, allP, allP, List.append_nil, h1]
  have hc := scanB_cut _ hk (lenP (scanB s).1 + j)
  rw [← he, h4, h2, List.take_length_add_append] at hc
  rw [hc]
  dsimp only
  rw [← h2, ← h4, cuts_app]
  by_cases hj : 2 + (encP r).length + 32 ≤ j
  · right
    rw [if_pos hj, List.take_of_length_le (by simp)]
  · left
    rw [if_neg hj, Nat.add_zero, List.take_left' rfl]
end Go.Proofs.YtbbobffedgcbhaaDoor
