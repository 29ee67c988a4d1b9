/- Chains of given records as plain data; scanning them. No program. -/
import Derived.Test.YtbbobffedgcbhaaGreatDoorChV
namespace Go.Proofs.YtbbobffedgcbhaaGreatDoor
set_option linter.unusedVariables false
def allP : LB → List Rec → LB
  | _, [] => []
  | h, r :: l => entP h r ++ allP (digP h (encP r)) l
def lastP : LB → List Rec → LB
  | h, [] => h
  | h, r :: l => lastP (digP h (encP r)) l
def okP : Nat → List Rec → Prop
  | _, [] => True
  | k, r :: l => validP r = true ∧ r.seq = (k : Int) ∧ okP (k + 1) l
def cutsP : List Rec → Nat → Nat
  | [], _ => 0
  | r :: l, c => if 2 + (encP r).length + 32 ≤ c then cutsP l (c - (2 + (encP r).length + 32)) + 1 else 0
theorem all_length (l : List Rec) : ∀ h, (allP h l).length = lenP l := by
  induction l with
  | nil => intro h; rfl
  | cons r l ih => intro h; rw [allP, lenP, List.length_append, ent_length, ih]
theorem all_append (a b : List Rec) : ∀ h, allP h (a ++ b) = allP h a ++ allP (lastP h a) b := by
  induction a with
  | nil => intro h; rfl
  | cons r l ih => intro h; rw [List.cons_append, allP, allP, ih, lastP, List.append_assoc]
theorem last_append (a b : List Rec) : ∀ h, lastP h (a ++ b) = lastP (lastP h a) b := by
  induction a with
  | nil => intro h; rfl
  | cons r l ih => intro h; rw [List.cons_append, lastP, ih, lastP]
theorem last_length (l : List Rec) : ∀ h : LB, h.length = 32 → (lastP h l).length = 32 := by
  induction l with
  | nil => intro h e; exact e
  | cons r l ih => intro h e; rw [lastP]; exact ih _ (digP_length _ _)
theorem ok_append (a b : List Rec) : ∀ k, okP k (a ++ b) ↔ okP k a ∧ okP (k + a.length) b := by
  induction a with
  | nil => intro k; simp [okP]
  | cons r l ih => intro k; rw [List.cons_append, okP, okP, ih, List.length_cons, show k + (l.length + 1) = k + 1 + l.length by omega]; simp only [and_assoc]
theorem ok_take {l : List Rec} {k : Nat} (h : okP k l) (j : Nat) : okP k (l.take j) := by
  have e : l = l.take j ++ l.drop j := (List.take_append_drop j l).symm
  rw [e, ok_append] at h
  exact h.1
theorem cuts_le (l : List Rec) : ∀ c, cutsP l c ≤ l.length := by
  induction l with
  | nil => intro c; exact Nat.le_refl _
  | cons r l ih =>
    intro c
    rw [cutsP, List.length_cons]
    have := ih (c - (2 + (encP r).length + 32))
    split <;> omega
theorem cuts_len (l : List Rec) : ∀ c, lenP (l.take (cutsP l c)) ≤ c := by
  induction l with
  | nil => intro c; exact Nat.zero_le _
  | cons r l ih =>
    intro c
    rw [cutsP]
    split
    · rw [List.take_succ_cons, lenP]
      have := ih (c - (2 + (encP r).length + 32))
      omega
    · exact Nat.zero_le _
theorem cuts_next (l : List Rec) : ∀ c, cutsP l c < l.length → c < lenP (l.take (cutsP l c + 1)) := by
  induction l with
  | nil => intro c h; exact absurd h (Nat.not_lt_zero _)
  | cons r l ih =>
    intro c h
    rw [cutsP] at h ⊢
    split at h
    · rename_i hc
      rw [if_pos hc, List.take_succ_cons, lenP]
      have := ih (c - (2 + (encP r).length + 32)) (by rw [List.length_cons] at h; omega)
      omega
    · rename_i hc
      rw [if_neg hc, List.take_succ_cons, lenP]
      omega
theorem cuts_all (l : List Rec) : cutsP l (lenP l) = l.length := by
  induction l with
  | nil => rfl
  | cons r l ih => rw [cutsP, lenP, if_pos (by omega), show 2 + (encP r).length + 32 + lenP l - (2 + (encP r).length + 32) = lenP l by omega, ih, List.length_cons]
theorem cut_short (h : LB) {r : Rec} (hv : validP r = true) (rest : LB) {c : Nat} (hc : c < 2 + (encP r).length + 32) : cutP ((entP h r ++ rest).take c) = none := by
  have hs := enc_small hv
  have e1 : (entP h r ++ rest).take 2 = be 2 (encP r).length := by
    have e0 : entP h r ++ rest = be 2 (encP r).length ++ (encP r ++ (digP h (encP r) ++ rest)) := by unfold entP; simp
    rw [e0, List.take_append_of_le_length (by rw [be_length]; omega), List.take_of_length_le (by rw [be_length]; omega)]
  have hl : ((entP h r ++ rest).take c).length ≤ c := by rw [List.length_take]; omega
  unfold cutP
  by_cases h2 : ((entP h r ++ rest).take c).length < 2
  · rw [if_pos h2]
  · rw [if_neg h2]
    have e2 : ((entP h r ++ rest).take c).take 2 = be 2 (encP r).length := by rw [List.take_take, Nat.min_eq_left (by omega), e1]
    have e3 : numB (((entP h r ++ rest).take c).take 2) = (encP r).length := by rw [e2, be_num]; exact Nat.mod_eq_of_lt (by omega)
    rw [e3, if_pos (by omega)]
theorem scan_none (f : Nat) {h : LB} {k : Nat} {b : LB} (H : cutP b = none) : scanP f h k b = ([], h, 0) := by
  cases f with
  | zero => rfl
  | succ f => simp only [scanP, next_nocut H]
theorem scan_cut (l : List Rec) : ∀ (f : Nat) (h : LB) (k c : Nat), okP k l → ((allP h l).take c).length ≤ f → scanP f h k ((allP h l).take c) = (l.take (cutsP l c), lastP h (l.take (cutsP l c)), lenP (l.take (cutsP l c))) := by
  induction l with
  | nil =>
    intro f h k c hk hf
    rw [show ((allP h []).take c) = [] by simp [allP]]
    rw [scan_none f (b := []) rfl]
    rfl
  | cons r l ih =>
    intro f h k c hk hf
    obtain ⟨hv, hs, hk⟩ := hk
    rw [allP] at hf ⊢
    rw [cutsP]
    by_cases hc : 2 + (encP r).length + 32 ≤ c
    · rw [if_pos hc]
      have e0 : (entP h r ++ allP (digP h (encP r)) l).take c = entP h r ++ (allP (digP h (encP r)) l).take (c - (2 + (encP r).length + 32)) := by
        rw [List.take_append, List.take_of_length_le (by rw [ent_length]; exact hc), ent_length]
      rw [e0] at hf ⊢
      rw [List.length_append, ent_length] at hf
      obtain ⟨g, rfl⟩ : ∃ g, f = g + 1 := ⟨f - 1, by omega⟩
      have hn := next_ent h hv ((allP (digP h (encP r)) l).take (c - (2 + (encP r).length + 32)))
      rw [hs, Int.toNat_natCast] at hn
      have hi := ih g (digP h (encP r)) (k + 1) (c - (2 + (encP r).length + 32)) hk (by omega)
      simp only [scanP, hn]
      rw [List.drop_left, hi, ent_length, List.take_succ_cons, lastP, lenP]
    · rw [if_neg hc]
      rw [scan_none f (cut_short h hv _ (by omega))]
      rfl
theorem scan_take (f : Nat) : ∀ (h : LB) (k : Nat) (b : LB), b.take (scanP f h k b).2.2 = allP h (scanP f h k b).1 ∧ (scanP f h k b).2.1 = lastP h (scanP f h k b).1 ∧ okP k (scanP f h k b).1 := by
  induction f with
  | zero => intro h k b; exact ⟨by simp [scanP, allP], rfl, trivial⟩
  | succ f ih =>
    intro h k b
    simp only [scanP]
    cases e : nextP h k b with
    | none => exact ⟨by simp [allP], rfl, trivial⟩
    | some x =>
      obtain ⟨r, own, n⟩ := x
      obtain ⟨n1, n2, n3, n4, n5⟩ := next_len e
      obtain ⟨body, h1, h2, h3, h4, h5⟩ := next_some e
      have h6 := (dec_enc h3).2
      obtain ⟨i1, i2, i3⟩ := ih own (k + 1) (b.drop n)
      have ho : own = digP h (encP r) := by rw [h6]; exact h2
      dsimp only
      refine ⟨?_, by rw [i2, lastP, ho], n4, h4, i3⟩
      rw [allP, List.take_add, n5, i1, ho]
theorem scanB_cut (l : List Rec) (hk : okP 0 l) (c : Nat) : scanB ((allP zero32 l).take c) = (l.take (cutsP l c), lastP zero32 (l.take (cutsP l c)), lenP (l.take (cutsP l c))) := scan_cut l _ zero32 0 c hk (Nat.le_refl _)
theorem scanB_all (l : List Rec) (hk : okP 0 l) : scanB (allP zero32 l) = (l, lastP zero32 l, lenP l) := by
  have h := scanB_cut l hk (lenP l)
  rw [cuts_all, List.take_of_length_le (Nat.le_refl _), List.take_of_length_le (by rw [all_length]; exact Nat.le_refl _)] at h
  exact h
theorem scanB_take (b : LB) : b.take (scanB b).2.2 = allP zero32 (scanB b).1 ∧ (scanB b).2.1 = lastP zero32 (scanB b).1 ∧ okP 0 (scanB b).1 := scan_take _ _ _ _
theorem scanB_end (b : LB) : (scanB b).2.2 ≤ b.length := scan_end _ _ _ _
theorem scanB_few (b : LB) : 34 * (scanB b).1.length ≤ (scanB b).2.2 := scan_few _ _ _ _
theorem scanB_last (b : LB) : (scanB b).2.1.length = 32 := by rw [(scanB_take b).2.1]; exact last_length _ _ rfl
theorem scanB_goes (b : LB) {r : Rec} (hv : validP r = true) (hs : r.seq = ((scanB b).1.length : Int)) : scanB (b.take (scanB b).2.2 ++ entP (scanB b).2.1 r) = ((scanB b).1 ++ [r], digP (scanB b).2.1 (encP r), (scanB b).2.2 + (entP (scanB b).2.1 r).length) := by
  obtain ⟨h1, h2, h3⟩ := scanB_take b
  have h4 : lenP (scanB b).1 = (scanB b).2.2 := scan_lenP _ _ _ _
  have hk : okP 0 ((scanB b).1 ++ [r]) := (ok_append _ _ _).2 ⟨h3, hv, by rw [hs]; simp, trivial⟩
  have he : b.take (scanB b).2.2 ++ entP (scanB b).2.1 r = allP zero32 ((scanB b).1 ++ [r]) := by
    rw [all_append, ← h1, ← h2, allP, allP, List.append_nil]
  rw [he, scanB_all _ hk, last_append, ← h2, lenP_append, h4, ent_length]
  rfl
end Go.Proofs.YtbbobffedgcbhaaGreatDoor
