/- Children stay of a bounded size (pure). -/
import Derived.Test.YtlkccboongnneaaGreatDoorPgW
namespace Go.Proofs.YtlkccboongnneaaGreatDoor
open Go.RowKit
set_option linter.unusedVariables false
theorem numOf_R {s : Bs} {v : Int} (h : numOf s = some v) : i64R v := by
  unfold numOf at h
  split at h
  · rename_i hx
    injection h with h
    rw [← h]
    exact (Classical.choose_spec hx).1
  · cases h
theorem headC_R (l : List Bs) : i64R (headC l) := by
  have h10 : i64R 10 := ⟨by decide, by decide⟩
  cases l with
  | nil => exact h10
  | cons x l =>
    cases h : numOf x with
    | none =>
      have e : headC (x :: l) = 10 := by unfold headC; dsimp only; rw [h]
      rw [e]
      exact h10
    | some v =>
      have e : headC (x :: l) = if 0 ≤ v then v else 10 := by unfold headC; dsimp only; rw [h]
      rw [e]
      by_cases hv : 0 ≤ v
      · rw [if_pos hv]; exact numOf_R h
      · rw [if_neg hv]; exact h10
theorem r0 : i64R 0 := ⟨by decide, by decide⟩
theorem r1 : i64R 1 := ⟨by decide, by decide⟩
theorem r2_ : i64R 2 := ⟨by decide, by decide⟩
theorem r3_ : i64R 3 := ⟨by decide, by decide⟩
theorem r4_ : i64R 4 := ⟨by decide, by decide⟩
theorem r127 : i64R 127 := ⟨by decide, by decide⟩
theorem FitP.start {p : PR} (h : FitP p) (hj : (Lib.join p.args.tail [32]).length ≤ 400000) : FitP (startP p) := by
  unfold startP
  split
  · exact ⟨h.a, h.e, h.f, by simp; omega, h.done, h.ca, h.st, r3_, h.co, h.pr⟩
  split
  · exact ⟨h.a, h.e, h.f, h.d, h.done, h.ca, h.st, r1, h.co, h.pr⟩
  split
  · split
    · exact ⟨h.a, h.e, h.f, h.d, h.done, h.ca, r0, r4_, r0, h.pr⟩
    · exact ⟨h.a, h.e, h.f, h.d, h.done, h.ca, h.st, r1, headC_R _, h.pr⟩
  split
  · split
    · exact ⟨h.a, h.e, h.f, h.d, h.done, h.ca, h.st, r1, h.co, h.pr⟩
    · exact ⟨h.a, h.e, h.f, h.d, h.done, h.ca, r1, r4_, h.co, h.pr⟩
  · exact ⟨h.a, h.e, h.f, h.d, h.done, h.ca, r127, r4_, h.co, h.pr⟩
theorem start_same (p : PR) : (startP p).prog = p.prog ∧ (startP p).args = p.args := by
  unfold startP
  split
  · exact ⟨rfl, rfl⟩
  split
  · exact ⟨rfl, rfl⟩
  split
  · split <;> exact ⟨rfl, rfl⟩
  split
  · split <;> exact ⟨rfl, rfl⟩
  · exact ⟨rfl, rfl⟩
theorem FitP.begun {p : PR} (h : FitP p) (hj : (Lib.join p.args.tail [32]).length ≤ 400000) : FitP (begun p) := by
  unfold Proofs.YtlkccboongnneaaGreatDoor.begun
  split
  · exact h.start hj
  · exact h
theorem begun_same (p : PR) : (begun p).prog = p.prog ∧ (begun p).args = p.args := by
  unfold begun
  split
  · exact start_same p
  · exact ⟨rfl, rfl⟩
theorem FitP.wrote {p : PR} (h : FitP p) (n : Nat) : FitP (wroteP p n) := by
  unfold wroteP
  split
  · exact ⟨h.a, h.e, h.f, by have := h.d; simp; omega, h.done, h.ca, h.st, h.ph, h.co, h.pr⟩
  split
  · exact ⟨h.a, h.e, h.f, by simp, h.done, h.ca, h.st, r4_, h.co, h.pr⟩
  · exact ⟨h.a, h.e, h.f, by simp, h.done, h.ca, h.st, r1, h.co, h.pr⟩
theorem FitP.read {p : PR} (h : FitP p) {d : Bs} (hd : d.length ≤ 400000) : FitP (readP p d) := by
  have hl := cnt_le d
  have hil := itoa_len p.count h.co
  have hco := h.co
  unfold i64R at hco
  unfold readP
  split
  · split
    · exact ⟨h.a, h.e, h.f, by simp; omega, h.done, h.ca, h.st, r3_, h.co, h.pr⟩
    · exact ⟨h.a, h.e, h.f, h.d, h.done, h.ca, h.st, r4_, h.co, h.pr⟩
  split
  · refine ⟨h.a, h.e, h.f, h.d, h.done, h.ca, h.st, h.ph, ?_, h.pr⟩
    unfold i64R
    show _ ≤ countP p d ∧ countP p d ≤ _
    unfold countP
    split <;> omega
  split
  · refine ⟨h.a, h.e, h.f, by simp; omega, h.done, h.ca, h.st, ?_, ?_, h.pr⟩
    · show i64R (if _ then 3 else 2)
      split
      · exact r3_
      · exact r2_
    · unfold i64R
      show _ ≤ max p.count 0 - (headN p d : Int) ∧ max p.count 0 - (headN p d : Int) ≤ _
      unfold headN
      omega
  · exact ⟨h.a, h.e, h.f, by show (passP p d).length ≤ _; rw [passP_len]; omega, h.done, h.ca, h.st, r2_, h.co, h.pr⟩
theorem wrote_same (p : PR) (n : Nat) : (wroteP p n).prog = p.prog ∧ (wroteP p n).args = p.args := by
  unfold wroteP
  split
  · exact ⟨rfl, rfl⟩
  split <;> exact ⟨rfl, rfl⟩
theorem read_same (p : PR) (d : Bs) : (readP p d).prog = p.prog ∧ (readP p d).args = p.args := by
  unfold readP
  split
  · split <;> exact ⟨rfl, rfl⟩
  split
  · exact ⟨rfl, rfl⟩
  split <;> exact ⟨rfl, rfl⟩
theorem after_same (p : PR) (n : Nat) (d : Bs) : (afterP p n d).prog = p.prog ∧ (afterP p n d).args = p.args := by
  have h := begun_same p
  unfold afterP
  split
  · exact ⟨rfl, rfl⟩
  split
  · exact h
  split
  · have h2 := wrote_same (begun p) n
    exact ⟨h2.1.trans h.1, h2.2.trans h.2⟩
  · have h2 := read_same (begun p) d
    exact ⟨h2.1.trans h.1, h2.2.trans h.2⟩
theorem FitP.after {p : PR} (h : FitP p) (hj : (Lib.join p.args.tail [32]).length ≤ 400000) (n : Nat) {d : Bs} (hd : d.length ≤ 400000) : FitP (afterP p n d) := by
  have hb := h.begun hj
  unfold afterP
  split
  · exact h
  split
  · exact hb
  split
  · exact hb.wrote n
  · exact hb.read hd
end Go.Proofs.YtlkccboongnneaaGreatDoor
