/- Chains as plain data: digests, entries, scanning. No program. -/
import Derived.Test.YtbbobffedgcbhaaGreatDoorGr
import Derived.Test.YtbbobffedgcbhaaGreatDoorShaM
namespace Go.Proofs.YtbbobffedgcbhaaGreatDoor
set_option linter.unusedVariables false
/-- The digest of a record's bytes behind a digest. -/
def digP (h b : LB) : LB := sumL (h ++ b)
theorem digP_length (h b : LB) : (digP h b).length = 32 := sumL_length _
def entP (h : LB) (r : Rec) : LB := be 2 (encP r).length ++ encP r ++ digP h (encP r)
/-- The record's bytes and the digest at the beginning. -/
def cutP (b : LB) : Option (LB × LB) :=
  if b.length < 2 then none else if b.length < 2 + numB (b.take 2) + 32 then none else some ((b.drop 2).take (numB (b.take 2)), (b.drop (2 + numB (b.take 2))).take 32)
def nextP (h : LB) (k : Nat) (b : LB) : Option (Rec × LB × Nat) :=
  match cutP b with
  | none => none
  | some (body, own) => if own = digP h body then
      match decP body with
      | none => none
      | some r => if r.seq = (k : Int) then some (r, own, 2 + body.length + 32) else none
    else none
/-- The records, the last digest, and where the entries end. -/
def scanP : Nat → LB → Nat → LB → List Rec × LB × Nat
  | 0, h, _, _ => ([], h, 0)
  | f + 1, h, k, b =>
    match nextP h k b with
    | none => ([], h, 0)
    | some (r, own, n) => (r :: (scanP f own (k + 1) (b.drop n)).1, (scanP f own (k + 1) (b.drop n)).2.1, n + (scanP f own (k + 1) (b.drop n)).2.2)
theorem cut_some {b body own : LB} (h : cutP b = some (body, own)) : numB (b.take 2) = body.length ∧ own.length = 32 ∧ 2 + body.length + 32 ≤ b.length ∧ b.take (2 + body.length + 32) = b.take 2 ++ body ++ own ∧ body = (b.drop 2).take body.length ∧ own = (b.drop (2 + body.length)).take 32 := by
  unfold cutP at h
  split at h
  · cases h
  · split at h
    · cases h
    · rename_i h1 h2
      injection h with h
      injection h with e1 e2
      have l1 : body.length = numB (b.take 2) := by rw [← e1, List.length_take, List.length_drop]; omega
      rw [← l1] at e1 e2 h2
      refine ⟨l1.symm, by rw [← e2, List.length_take, List.length_drop]; omega, by omega, ?_, e1.symm, e2.symm⟩
      rw [List.take_add, List.take_add, e1, e2]
theorem next_some {h : LB} {k : Nat} {b : LB} {r : Rec} {own : LB} {n : Nat} (H : nextP h k b = some (r, own, n)) : ∃ body, cutP b = some (body, own) ∧ own = digP h body ∧ decP body = some r ∧ r.seq = (k : Int) ∧ n = 2 + body.length + 32 := by
  unfold nextP at H
  split at H
  · cases H
  · rename_i body own' hc
    split at H
    · rename_i ho
      split at H
      · cases H
      · rename_i r' hd
        split at H
        · rename_i hs
          injection H with H
          injection H with e1 e2
          injection e2 with e2 e3
          subst e1; subst e2; subst e3
          exact ⟨body, hc, ho, hd, hs, rfl⟩
        · cases H
    · cases H
theorem next_len {h : LB} {k : Nat} {b : LB} {r : Rec} {own : LB} {n : Nat} (H : nextP h k b = some (r, own, n)) : 34 ≤ n ∧ n ≤ b.length ∧ own.length = 32 ∧ validP r = true ∧ b.take n = entP h r := by
  obtain ⟨body, hc, ho, hd, hs, rfl⟩ := next_some H
  obtain ⟨h1, h2, h3, h4, h5, h6⟩ := cut_some hc
  obtain ⟨hv, he⟩ := dec_enc hd
  refine ⟨by omega, h3, h2, hv, ?_⟩
  rw [h4]
  unfold entP
  rw [he, ← ho, ← h1, num_be (b.take 2) 2 (by rw [List.length_take]; omega)]
theorem ent_length (h : LB) (r : Rec) : (entP h r).length = 2 + (encP r).length + 32 := by
  unfold entP
  rw [List.length_append, List.length_append, be_length, digP_length]
theorem enc_small {r : Rec} (hv : validP r = true) : (encP r).length ≤ 560 := by
  obtain ⟨_, _, h4, h5, h6⟩ := valid_parts hv
  rw [enc_shape]
  simp only [List.length_append, List.length_cons, be_length, txtP]
  omega
theorem cut_ent (h : LB) {r : Rec} (hv : validP r = true) (rest : LB) : cutP (entP h r ++ rest) = some (encP r, digP h (encP r)) := by
  have hs := enc_small hv
  have hl := digP_length h (encP r)
  have e0 : entP h r ++ rest = be 2 (encP r).length ++ (encP r ++ (digP h (encP r) ++ rest)) := by unfold entP; simp
  have e1 : (entP h r ++ rest).take 2 = be 2 (encP r).length := by
    rw [e0, List.take_append_of_le_length (by rw [be_length]; omega), List.take_of_length_le (by rw [be_length]; omega)]
  have e2 : numB ((entP h r ++ rest).take 2) = (encP r).length := by rw [e1, be_num]; exact Nat.mod_eq_of_lt (by omega)
  have e3 : (entP h r ++ rest).drop 2 = encP r ++ (digP h (encP r) ++ rest) := by
    rw [e0, List.drop_append, List.drop_of_length_le (by rw [be_length]; omega), be_length, Nat.sub_self, List.drop_zero, List.nil_append]
  have e4 : (entP h r ++ rest).length = 2 + (encP r).length + 32 + rest.length := by rw [List.length_append, ent_length]
  have e5 : (entP h r ++ rest).drop (2 + (encP r).length) = digP h (encP r) ++ rest := by rw [← List.drop_drop, e3, List.drop_left]
  unfold cutP
  rw [e2, if_neg (by omega), if_neg (by omega), e5, e3, List.take_left, List.take_append_of_le_length (by omega), List.take_of_length_le (by omega)]
theorem next_ent (h : LB) {r : Rec} (hv : validP r = true) (rest : LB) : nextP h r.seq.toNat (entP h r ++ rest) = some (r, digP h (encP r), (entP h r).length) := by
  obtain ⟨⟨h1, _⟩, _⟩ := valid_parts hv
  unfold nextP
  rw [cut_ent h hv rest]
  dsimp only
  rw [if_pos rfl, enc_dec hv]
  dsimp only
  rw [if_pos (by omega), ent_length]
theorem scan_fuel (f : Nat) : ∀ (g : Nat) (h : LB) (k : Nat) (b : LB), b.length ≤ f → b.length ≤ g → scanP f h k b = scanP g h k b := by
  induction f with
  | zero =>
    intro g h k b h1 h2
    cases g with
    | zero => rfl
    | succ g =>
      have hn : nextP h k b = none := by
        cases e : nextP h k b with
        | none => rfl
        | some x => obtain ⟨r, own, n⟩ := x; have := next_len e; omega
      simp only [scanP, hn]
  | succ f ih =>
    intro g h k b h1 h2
    cases g with
    | zero =>
      have hn : nextP h k b = none := by
        cases e : nextP h k b with
        | none => rfl
        | some x => obtain ⟨r, own, n⟩ := x; have := next_len e; omega
      simp only [scanP, hn]
    | succ g =>
      simp only [scanP]
      cases e : nextP h k b with
      | none => rfl
      | some x =>
        obtain ⟨r, own, n⟩ := x
        have := next_len e
        dsimp only
        rw [ih g own (k + 1) (b.drop n) (by rw [List.length_drop]; omega) (by rw [List.length_drop]; omega)]
theorem scan_end (f : Nat) : ∀ (h : LB) (k : Nat) (b : LB), (scanP f h k b).2.2 ≤ b.length := by
  induction f with
  | zero => intro h k b; exact Nat.zero_le _
  | succ f ih =>
    intro h k b
    simp only [scanP]
    cases e : nextP h k b with
    | none => exact Nat.zero_le _
    | some x =>
      obtain ⟨r, own, n⟩ := x
      have h1 := next_len e
      have h2 := ih own (k + 1) (b.drop n)
      rw [List.length_drop] at h2
      dsimp only
      omega
theorem scan_few (f : Nat) : ∀ (h : LB) (k : Nat) (b : LB), 34 * (scanP f h k b).1.length ≤ (scanP f h k b).2.2 := by
  induction f with
  | zero => intro h k b; exact Nat.le_refl _
  | succ f ih =>
    intro h k b
    simp only [scanP]
    cases e : nextP h k b with
    | none => exact Nat.le_refl _
    | some x =>
      obtain ⟨r, own, n⟩ := x
      have h1 := next_len e
      have h2 := ih own (k + 1) (b.drop n)
      dsimp only
      rw [List.length_cons]
      omega
end Go.Proofs.YtbbobffedgcbhaaGreatDoor
