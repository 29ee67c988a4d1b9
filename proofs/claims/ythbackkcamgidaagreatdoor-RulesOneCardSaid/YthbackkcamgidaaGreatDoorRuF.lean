/- strings.FieldsFunc at blanks; the words of a line. -/
import Derived.Test.YthbackkcamgidaaGreatDoorRuY
import Derived.Lib.FieldsP
import Derived.Lib.DecodeN
import Derived.Laws.RangeAny
namespace Go.Proofs.YthbackkcamgidaaGreatDoor
open Go Go.RowKit
set_option linter.unusedVariables false
theorem get_data (s : ByteArray) (k : Nat) {b : UInt8} (h : s.data.toList[k]? = some b) : s.get! k = b ∧ k < s.size := by
  obtain ⟨h1, h2⟩ := List.getElem?_eq_some_iff.1 h
  have h3 : k < s.size := by simpa using h1
  refine ⟨?_, h3⟩
  rw [← h2]
  show s.get! k = _
  simp [ByteArray.get!, getElem!_pos, h3]
theorem decode_skips (s : ByteArray) (pos : Nat) (j : Nat) (b : UInt8) (h1 : pos < j) (h2 : j < pos + (Utf8.decode s pos).2) (hb : s.data.toList[j]? = some b) : 128 ≤ b.toNat := by
  obtain ⟨hg, hl⟩ := get_data s j hb
  rw [Lib.decode_at] at h2
  rw [← hg]
  have c1 : j = pos + 1 ∨ j = pos + 2 ∨ j = pos + 3 ∨ pos + 4 ≤ j := by omega
  revert h2
  unfold Lib.decodeN
  rcases c1 with rfl | rfl | rfl | c1 <;> (repeat' split) <;> simp only [] <;> omega
theorem decode_fits (s : ByteArray) (pos : Nat) (h : pos < s.size) : pos + (Utf8.decode s pos).2 ≤ s.size := by
  rw [Lib.decode_at]
  unfold Lib.decodeN
  (repeat' split) <;> simp only [] <;> omega
def blR (c : Nat) : Bool := c == 32 || c == 9
theorem blR_lo (b : UInt8) : blR b.toNat = bl b := by
  unfold blR bl
  rw [Bool.eq_iff_iff]
  simp only [Bool.or_eq_true, beq_iff_eq]
  constructor
  · rintro (h | h)
    · exact .inl (UInt8.toNat_inj.1 h)
    · exact .inr (UInt8.toNat_inj.1 h)
  · rintro (rfl | rfl)
    · exact .inl rfl
    · exact .inr rfl
theorem blR_hi {c : Nat} (h : 128 ≤ c) : blR c = false := by
  unfold blR
  rw [Bool.or_eq_false_iff, beq_eq_false_iff_ne, beq_eq_false_iff_ne]
  omega
theorem bl_hi {b : UInt8} (h : 128 ≤ b.toNat) : bl b = false := by rw [← blR_lo, blR_hi h]
theorem fA_run : ∀ (w now r : LB), (∀ b ∈ w, bl b = false) → fA now (w ++ r) = fA (now ++ w) r
  | [], now, r, _ => by simp
  | x :: w, now, r, h => by
    rw [List.cons_append, fA_no _ _ (h x List.mem_cons_self), fA_run w _ r (fun b hb => h b (List.mem_cons_of_mem _ hb))]
    simp
def bx (k : LB) : ByteArray := ⟨k.toArray⟩
def piece (l : LB) (x : Nat × Nat) : LB := (l.drop x.1).take (x.2 - x.1)
theorem fields_go (l : LB) : ∀ (f pos : Nat), l.length ≤ f + pos → pos ≤ l.length → ∀ (st : Option Nat) (acc : List (Nat × Nat)), (∀ a, st = some a → a < pos) →
    (Lib.closeSpans ⟨l.toArray⟩ (Lib.spansFromP blR ⟨l.toArray⟩ f pos st acc)).map (piece l) = acc.map (piece l) ++ fA (match st with | some a => piece l (a, pos) | none => []) (l.drop pos) := by
  have hend : ∀ (f pos : Nat) (st : Option Nat) (acc : List (Nat × Nat)), pos = l.length → (∀ a, st = some a → a < pos) →
      (Lib.closeSpans ⟨l.toArray⟩ (Lib.spansFromP blR ⟨l.toArray⟩ f pos st acc)).map (piece l) = acc.map (piece l) ++ fA (match st with | some a => piece l (a, pos) | none => []) (l.drop pos) := by
    intro f pos st acc hp hst
    rw [Lib.spansFromP_end _ _ _ _ _ _ (by subst hp; show ¬ l.length < l.length; omega)]
    rw [List.drop_of_length_le (by omega), fA_nil]
    unfold Lib.closeSpans
    cases st with
    | none => simp
    | some a =>
      have ha := hst a rfl
      dsimp only
      have hne : piece l (a, pos) ≠ [] := by
        unfold piece
        intro h
        have := congrArg List.length h
        simp at this
        omega
      rw [if_neg hne, List.map_append]
      have : (⟨l.toArray⟩ : ByteArray).size = pos := by subst hp; rfl
      rw [this]
      rfl
  intro f
  induction f with
  | zero => intro pos h1 h2 st acc hst; exact hend 0 pos st acc (by omega) hst
  | succ f ih =>
    intro pos h1 h2 st acc hst
    rcases Nat.lt_or_ge pos l.length with hlt | hge
    · have hps : pos < (⟨l.toArray⟩ : ByteArray).size := hlt
      have hb : (⟨l.toArray⟩ : ByteArray)[pos]'hps = l[pos] := rfl
      have hcons : l.drop pos = l[pos] :: l.drop (pos + 1) := List.drop_eq_getElem_cons hlt
      -- the step's width and its bytes
      have key : ∃ w, (Utf8.decode ⟨l.toArray⟩ pos).2 = w ∧ 1 ≤ w ∧ pos + w ≤ l.length ∧ ((blR (Utf8.decode ⟨l.toArray⟩ pos).1 = true ∧ w = 1 ∧ bl l[pos] = true) ∨ (blR (Utf8.decode ⟨l.toArray⟩ pos).1 = false ∧ ∀ b ∈ (l.drop pos).take w, bl b = false)) := by
        rcases Nat.lt_or_ge (l[pos]).toNat 128 with hlo | hhi
        · have hd := decode_ascii ⟨l.toArray⟩ pos hps (by rw [hb]; exact hlo)
          rw [hd, hb]
          refine ⟨1, rfl, Nat.le_refl _, by omega, ?_⟩
          rw [blR_lo]
          cases hc : bl l[pos] with
          | true => exact .inl ⟨rfl, rfl, rfl⟩
          | false =>
            refine .inr ⟨rfl, fun b hb => ?_⟩
            rw [hcons, List.take_succ_cons, List.take_zero, List.mem_singleton] at hb
            rw [hb]; exact hc
        · obtain ⟨h128, hw⟩ := decode_high ⟨l.toArray⟩ pos hps (by rw [hb]; exact hhi)
          refine ⟨_, rfl, hw, decode_fits ⟨l.toArray⟩ pos hps, .inr ⟨blR_hi h128, fun b hbm => ?_⟩⟩
          obtain ⟨j, hj, e⟩ := List.getElem_of_mem hbm
          rw [List.getElem_take, List.getElem_drop] at e
          have hjl : j < (Utf8.decode ⟨l.toArray⟩ pos).2 := by simp at hj; omega
          have hjl2 : pos + j < l.length := by simp at hj; omega
          rcases Nat.eq_zero_or_pos j with h0 | h0
          · subst h0
            rw [← e]
            exact bl_hi hhi
          · refine bl_hi (decode_skips ⟨l.toArray⟩ pos (pos + j) b (by omega) (by omega) ?_)
            show l[pos + j]? = some b
            rw [List.getElem?_eq_getElem hjl2, e]
      obtain ⟨w, hw, hw1, hw2, hcase⟩ := key
      unfold Lib.spansFromP
      rw [if_pos hps, hw]
      rcases hcase with ⟨hp, rfl, hbl⟩ | ⟨hp, hnb⟩
      · rw [if_pos hp, hcons, fA_bl _ _ hbl]
        cases st with
        | none =>
          dsimp only
          rw [if_pos rfl, ih (pos + 1) (by omega) (by omega) none acc (fun a h => by cases h)]
        | some a =>
          have ha := hst a rfl
          dsimp only
          have hne : piece l (a, pos) ≠ [] := by
            unfold piece
            intro h
            have := congrArg List.length h
            simp at this
            omega
          rw [if_neg hne, ih (pos + 1) (by omega) (by omega) none _ (fun a h => by cases h), List.map_append]
          simp
      · rw [if_neg (by rw [hp]; decide)]
        have hsplit : l.drop pos = (l.drop pos).take w ++ l.drop (pos + w) := by
          rw [← List.drop_drop, List.take_append_drop]
        cases st with
        | none =>
          dsimp only
          rw [ih (pos + w) (by omega) (by omega) (some pos) acc (fun a h => by injection h with h; omega)]
          conv => rhs; rw [hsplit, fA_run _ _ _ hnb]
          dsimp only
          congr 2
          unfold piece
          simp
        | some a =>
          have ha := hst a rfl
          dsimp only
          rw [ih (pos + w) (by omega) (by omega) (some a) acc (fun b h => by injection h with h; omega)]
          conv => rhs; rw [hsplit, fA_run _ _ _ hnb]
          dsimp only
          congr 2
          unfold piece
          dsimp only
          have e1 : pos + w - a = (pos - a) + w := by omega
          rw [e1, List.take_add, List.drop_drop]
          congr 3
          omega
    · exact hend _ pos st acc (by omega) hst
theorem fields_eq (l : LB) : Lib.goFieldsP blR ⟨l.toArray⟩ = (fA [] l).map bx := by
  have h := fields_go l l.length 0 (by omega) (by omega) none [] (fun a h => by cases h)
  simp only [List.map_nil, List.nil_append, List.drop_zero] at h
  rw [← h]
  unfold Lib.goFieldsP Lib.spansOfP
  rw [List.map_map]
  congr 1
  funext x
  show (⟨l.toArray⟩ : ByteArray).extract x.1 x.2 = bx (piece l x)
  exact ext_two l x.1 x.2
end Go.Proofs.YthbackkcamgidaaGreatDoor
