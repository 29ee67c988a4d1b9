/- What is put is cut as it was: the plain words of FrameBack. -/
import Derived.Test.YtgmpcgcmcheelaaLawK
namespace Go.Proofs.Ytgmpcgcmcheelaa
set_option linter.unusedVariables false

def enc1 (b : Bs) : Bs := be 2 b.length ++ b
def encs : List Bs → Bs
  | [] => []
  | b :: l => enc1 b ++ encs l
theorem encs_snoc (l : List Bs) (b : Bs) : encs (l ++ [b]) = encs l ++ enc1 b := by
  induction l with
  | nil => simp [encs]
  | cons a l ih => simp only [List.cons_append, encs, ih, List.append_assoc]
theorem read_encs : ∀ l : List Bs, (∀ b ∈ l, 1 ≤ b.length ∧ b.length ≤ 4096) → readD (encs l) = (l, [], 0) := by
  intro l
  induction l with
  | nil => intro _; exact read_nil
  | cons b l ih =>
    intro h
    obtain ⟨h1, h2⟩ := h b (List.mem_cons_self ..)
    have e0 : encs (b :: l) = be 2 b.length ++ (b ++ encs l) := by show be 2 b.length ++ b ++ encs l = _; rw [List.append_assoc]
    have et : (encs (b :: l)).take 2 = be 2 b.length := by rw [e0]; exact List.take_left' (be_length 2 _)
    have en : numB ((encs (b :: l)).take 2) = b.length := by rw [et, be_num]; exact Nat.mod_eq_of_lt (by show b.length < 65536; omega)
    have ed : (encs (b :: l)).drop 2 = b ++ encs l := by rw [e0]; exact List.drop_left' (be_length 2 _)
    have el : (encs (b :: l)).length = 2 + (b.length + (encs l).length) := by rw [e0, List.length_append, List.length_append, be_length]
    have ef : (encs (b :: l)).drop (2 + b.length) = encs l := by rw [← List.drop_drop, ed]; exact List.drop_left' rfl
    rw [read_next (by omega) (by unfold bad; rw [en]; exact decide_eq_false (by omega)) (by rw [en]; omega), en, ef, ed, List.take_left' rfl, ih (fun x hx => h x (List.mem_cons_of_mem _ hx))]
theorem encs_len : ∀ l : List Bs, (∀ b ∈ l, b.length ≤ 300) → (encs l).length ≤ 302 * l.length := by
  intro l
  induction l with
  | nil => intro _; exact Nat.le_refl _
  | cons b l ih =>
    intro h
    have h1 := h b (List.mem_cons_self ..)
    have h2 := ih (fun x hx => h x (List.mem_cons_of_mem _ hx))
    show (be 2 b.length ++ b ++ encs l).length ≤ _
    rw [List.length_append, List.length_append, be_length, List.length_cons]
    omega
theorem read_pre {x y : Bs} (h : (readD (x ++ y)).2.2 ≠ 5) : (readD x).2.2 ≠ 5 := by
  intro h5
  apply h
  rw [read_ext _ x y (Nat.le_refl _), if_pos h5]
/-- One byte more. -/
theorem read_byte {p x y : Bs} (h : (readD (p ++ x ++ y)).2.2 ≠ 5) :
    okS (readD p).2.1 false = true ∧ (readD ((readD p).2.1 ++ x)).2.2 ≠ 5 ∧ readD (p ++ x) = ((readD p).1 ++ (readD ((readD p).2.1 ++ x)).1, (readD ((readD p).2.1 ++ x)).2) := by
  have h1 := read_pre h
  have h2 := read_pre h1
  have e := read_ext _ p x (Nat.le_refl _)
  rw [if_neg h2] at e
  refine ⟨ok_rest h2, ?_, e⟩
  rw [e] at h1; exact h1
theorem drop_one {α : Type} {l : List α} {i : Nat} (h : i < l.length) : (l.drop i).take 1 = [l[i]] := by
  rw [List.drop_eq_getElem_cons h]; rfl
theorem take_one {α : Type} {l : List α} {i : Nat} (h : i < l.length) : l.take (i + 1) = l.take i ++ [l[i]] := by
  rw [List.take_succ_eq_append_getElem h]
end Go.Proofs.Ytgmpcgcmcheelaa
