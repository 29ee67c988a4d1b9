/- Texts, names, their order: what layer 11 stands on. -/
import Derived.Test.YthbackkcamgidaaGreatDoorRuS
import Derived.BigQuiet
namespace Go.Proofs.YthbackkcamgidaaGreatDoor
open Go.RowKit
set_option linter.unusedVariables false
abbrev LB := List UInt8
theorem sl_from (p : LB) (a : Nat) (ha : a ≤ p.length) (W : World) : (Instr.slice 9 (.string ⟨p.toArray⟩) (some (.int .i64 (a : Int))) none none).run Tryz.prog W = .ok (.string ⟨(p.drop a).toArray⟩) W := by
  rw [run_slice_string_l W 9 ⟨p.toArray⟩ Tryz.underlying9 .i64 (a : Int) (by omega) (by show (a : Int) ≤ ((p.length : Nat) : Int); omega), Int.toNat_natCast]
  exact congrArg (fun x => Result.ok (Value.string x) W) (ext_from p a)
theorem sl_to (p : LB) (b : Nat) (j : Int) (hj : j = (b : Int)) (hb : b ≤ p.length) (W : World) : (Instr.slice 9 (.string ⟨p.toArray⟩) none (some (.int .i64 j)) none).run Tryz.prog W = .ok (.string ⟨(p.take b).toArray⟩) W := by
  subst hj
  rw [run_slice_string_h W 9 ⟨p.toArray⟩ Tryz.underlying9 .i64 (b : Int) (by omega) (by show (b : Int) ≤ ((p.length : Nat) : Int); omega), Int.toNat_natCast, ext_two]
  rfl
theorem run_sizeOf_n {P : Program} {e : TypeId} {n : Nat} (hs : (P.info? e).map (·.size) = some n) (W : World) : (sizeOf e).run P W = .ok n W := by
  obtain ⟨i, hi, h1⟩ := Option.map_eq_some_iff.1 hs
  simp [sizeOf, typeInfo, hi, h1]
def nameP (p : LB) : Bool := p.length ≠ 0 && p.length ≤ 32 && (p.all fun c => (97 ≤ c.toNat && c.toNat ≤ 122) || (65 ≤ c.toNat && c.toNat ≤ 90) || c.toNat == 95 || (48 ≤ c.toNat && c.toNat ≤ 57)) && !(48 ≤ (p.getD 0 0).toNat && (p.getD 0 0).toNat ≤ 57)
def okc (c : UInt8) : Bool := (97 ≤ c.toNat && c.toNat ≤ 122) || (65 ≤ c.toNat && c.toNat ≤ 90) || c.toNat == 95 || (48 ≤ c.toNat && c.toNat ≤ 57)
def digc (c : UInt8) : Bool := 48 ≤ c.toNat && c.toNat ≤ 57
def NG (p : LB) (i : Nat) : Prop := i ≤ p.length ∧ ∀ j, j < i → okc (p.getD j 0) = true ∧ (j = 0 → digc (p.getD j 0) = false)
theorem okc_hi (c : UInt8) (h : 128 ≤ c.toNat) : okc c = false := by simp only [okc]; simp; omega
theorem name_eq (p : LB) : nameP p = (p.length ≠ 0 && p.length ≤ 32 && p.all okc && !digc (p.getD 0 0)) := rfl
theorem ng_all {p : LB} (h : NG p p.length) (h0 : p.length ≠ 0) (h32 : p.length ≤ 32) : nameP p = true := by
  rw [name_eq]
  have h1 : p.all okc = true := List.all_eq_true.2 fun c hc => by
    obtain ⟨j, hj, rfl⟩ := List.getElem_of_mem hc
    have := (h.2 j hj).1
    simpa [List.getD_eq_getElem?_getD, hj] using this
  have h2 := (h.2 0 (by omega)).2 rfl
  rw [h1, h2]; simp [h0, h32]
theorem ng_not {p : LB} {i : Nat} (hi : i < p.length) (h : okc (p.getD i 0) = false ∨ (i = 0 ∧ digc (p.getD i 0) = true)) : nameP p = false := by
  rw [name_eq]
  rcases h with h | ⟨rfl, h⟩
  · have : p.all okc = false := by
      rw [List.all_eq_false]
      refine ⟨p[i], List.getElem_mem _, ?_⟩
      have hg : p.getD i 0 = p[i] := by simp [List.getD_eq_getElem?_getD, hi]
      rw [← hg, h]; decide
    rw [this]; simp
  · rw [h]; simp
theorem NG.succ {p : LB} {i : Nat} (h : NG p i) (hi : i < p.length) (h1 : okc (p.getD i 0) = true) (h2 : i = 0 → digc (p.getD i 0) = false) : NG p (i + 1) := ⟨by omega, fun j hj => by
  rcases Nat.lt_or_ge j i with hl | hl
  · exact h.2 j hl
  · obtain rfl : j = i := by omega
    exact ⟨h1, h2⟩⟩
theorem bytesLess_eq : ∀ (x y : LB), Op.bytesLess x y = decide (x < y)
  | [], [] => by simp [Op.bytesLess]
  | _ :: _, [] => by simp [Op.bytesLess]
  | [], _ :: _ => by simp [Op.bytesLess]
  | a :: x, b :: y => by
    rw [Op.bytesLess, bytesLess_eq x y]
    simp only [List.cons_lt_cons_iff]
    by_cases h1 : a < b <;> by_cases h2 : a = b <;> by_cases h3 : x < y <;> simp [h1, h2, h3]
theorem blt_irrefl (a : LB) : ¬ a < a := List.lt_irrefl a
theorem blt_trans {a b c : LB} (h : a < b) (k : b < c) : a < c := List.lt_trans h k
theorem blt_tri (a b : LB) : a < b ∨ a = b ∨ b < a := by
  rcases Decidable.em (a < b) with h | h
  · exact .inl h
  · rcases Decidable.em (b < a) with k | k
    · exact .inr (.inr k)
    · exact .inr (.inl (List.le_antisymm (List.not_lt.1 k) (List.not_lt.1 h)))
theorem blt_asymm {a b : LB} (h : a < b) : ¬ b < a := fun k => blt_irrefl a (blt_trans h k)
theorem blt_ne {a b : LB} (h : a < b) : a ≠ b := by rintro rfl; exact blt_irrefl _ h
end Go.Proofs.YthbackkcamgidaaGreatDoor
