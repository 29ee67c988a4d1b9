/- Contracts of lex.line, pair, operator, number. -/
import Derived.Test.YtpfcfcbljkdkhaaDoorLexT
import Derived.Test.YtpfcfcbljkdkhaaDoorShelf
import Derived.Lib.Hide
namespace Go.Proofs.YtpfcfcbljkdkhaaDoor
open Go.RowKit
set_option linter.unusedVariables false
theorem pre_l (l p : LB) (w : World) : Calls Tryd.prog 30 #[.string ⟨l.toArray⟩, .string ⟨p.toArray⟩] w fun e w' => e = .returned (.bool (Lib.hasPrefix l p)) ∧ w = w' := by
  refine (Any.strings_HasPrefix Tryd.lays99 ⟨l.toArray⟩ ⟨p.toArray⟩ w).mono ?_
  rintro e w' ⟨rfl, rfl⟩
  exact ⟨rfl, rfl⟩
theorem ixb_l (l : LB) (c : UInt8) (w : World) : Calls Tryd.prog 29 #[.string ⟨l.toArray⟩, .int .u8 (c.toNat : Int)] w fun e w' => e = .returned (.int .i64 (Lib.indexByte l c)) ∧ w = w' := by
  refine (Any.strings_IndexByte Tryd.lays137 ⟨l.toArray⟩ (c.toNat : Int) w).mono ?_
  rintro e w' ⟨rfl, rfl⟩
  refine ⟨?_, rfl⟩
  simp
theorem ixs_l (l : LB) (c : UInt8) (w : World) : Calls Tryd.prog 40 #[.string ⟨l.toArray⟩, .int .u8 (c.toNat : Int)] w fun e w' => e = .returned (.int .i64 (Lib.indexByte l c)) ∧ w = w' := by
  refine (Any.stringslite_IndexByte Tryd.lays217 ⟨l.toArray⟩ (c.toNat : Int) w).mono ?_
  rintro e w' ⟨rfl, rfl⟩
  refine ⟨?_, rfl⟩
  simp
theorem ixb_mem (l : LB) (c : UInt8) : (0 ≤ Lib.indexByte l c) ↔ c ∈ l := by
  induction l with
  | nil => simp [Lib.indexByte]
  | cons x t ih =>
    unfold Lib.indexByte
    by_cases h : x = c
    · subst h; simp
    · have h1 : (x == c) = false := beq_eq_false_iff_ne.2 h
      have h2 : ¬ c = x := fun e => h e.symm
      simp only [h1, Bool.false_eq_true, if_false, List.mem_cons, h2, false_or]
      rw [← ih]
      have : -1 ≤ Lib.indexByte t c := by
        clear ih h h1 h2
        induction t with
        | nil => simp [Lib.indexByte]
        | cons y r ih2 => unfold Lib.indexByte; split; · omega
                          · split <;> omega
      split
      · rename_i h3; have := beq_iff_eq.1 h3; omega
      · rename_i h3
        have : Lib.indexByte t c ≠ -1 := fun e => h3 (by rw [e]; rfl)
        omega
theorem line_ix : ∀ (l : LB), lineP l = if Lib.indexByte l 10 < 0 then l else l.take (Lib.indexByte l 10).toNat
  | [] => by simp [lineP, Lib.indexByte]
  | x :: t => by
    have ih := line_ix t
    unfold lineP Lib.indexByte
    by_cases h : x = 10
    · subst h; simp
    · have h1 : (x == 10) = false := beq_eq_false_iff_ne.2 h
      simp only [h, if_false, h1, Bool.false_eq_true]
      rw [ih]
      by_cases h2 : Lib.indexByte t 10 = -1
      · rw [h2]; simp
      · have h3 : (Lib.indexByte t 10 == -1) = false := beq_eq_false_iff_ne.2 h2
        simp only [h3, Bool.false_eq_true, if_false]
        by_cases h4 : Lib.indexByte t 10 < 0
        · have h5 : (0 : Int) ≤ Lib.indexByte t 10 + 1 := by
            have : -1 ≤ Lib.indexByte t 10 := by
              clear ih h h1 h2 h3 h4
              induction t with
              | nil => simp [Lib.indexByte]
              | cons y r ih2 => unfold Lib.indexByte; split; · omega
                                · split <;> omega
            omega
          exfalso; omega
        · rw [if_neg h4, if_neg (by omega), show (Lib.indexByte t 10 + 1).toNat = (Lib.indexByte t 10).toNat + 1 by omega]
          rfl
end Go.Proofs.YtpfcfcbljkdkhaaDoor
