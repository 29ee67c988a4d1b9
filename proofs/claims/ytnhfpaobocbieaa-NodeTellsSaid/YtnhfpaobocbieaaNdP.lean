/- The path of a step. -/
import Derived.Test.YtnhfpaobocbieaaNdS
import Derived.Sort.OwnSorted
namespace Go.Proofs.Ytnhfpaobocbieaa
open Go.RowKit
set_option linter.unusedVariables false
theorem total_n (ks : List Bs) (sep : UInt8) : ks.length ≤ (Lib.join ks [sep]).length + 1 := by
  cases ks with
  | nil => simp
  | cons x r => rw [Lib.join_cons, List.length_append, Lib.joinTail_length]; simp; omega
theorem join_row (sep : UInt8) (A : Option Addr) (n c : Nat) (ks : List Bs) (w : World) (hR : Reads w w.heap.size 1 A n (svs ks)) (hc : n ≤ c) (hA : 0 < n → ∃ g o, A = some ⟨g, o, none⟩) (ht : (Lib.join ks [sep]).length ≤ 1000000) :
    Calls Try.prog 51 #[.slice A n c, .string ⟨#[sep]⟩] w fun e w' => e = .returned (.string ⟨(Lib.join ks [sep]).toArray⟩) ∧ Below w.heap.size w w' := by
  have hl : ks.length = n := by have := hR.1; rw [svs_length] at this; omega
  rcases Nat.eq_zero_or_pos n with h0 | h0
  · subst h0
    obtain rfl := List.eq_nil_of_length_eq_zero hl
    refine (Any.strings_Join_none Try.lays156 Try.Builder_Extra_156 A c ⟨#[sep]⟩ w).mono ?_
    rintro e w' ⟨rfl, rfl⟩
    exact ⟨rfl, Below.refl _ _⟩
  · obtain ⟨g, o, rfl⟩ := hA h0
    obtain ⟨ad, e1, hb, hcl⟩ := hR.2 h0
    injection e1 with e1
    subst e1
    have hlx : (ks.map fun k => (⟨k.toArray⟩ : ByteArray)).length = n := by rw [List.length_map, hl]
    have hmm : (ks.map fun k => (⟨k.toArray⟩ : ByteArray)).map (fun x => x.data.toList) = ks := by simp [List.map_map, Function.comp_def]
    have h := Any.strings_Join Try.lays156 Try.Builder_Extra_156 g o c (ks.map fun k => (⟨k.toArray⟩ : ByteArray)) ⟨#[sep]⟩ w ?_ hb (by rw [hlx]; have := total_n ks sep; omega) (by rw [hlx]; exact hc) (by rw [hmm]; show (Lib.join ks [sep]).length ≤ _; omega)
    · rw [hlx, hmm] at h
      exact h
    · intro j x hj
      rw [List.getElem?_map] at hj
      have hjl : j < ks.length := by
        rcases Nat.lt_or_ge j ks.length with h | h
        · exact h
        · rw [List.getElem?_eq_none h] at hj; cases hj
      rw [List.getElem?_eq_getElem hjl] at hj
      simp only [Option.map_some, Option.some.injEq] at hj
      subst hj
      have := hcl j _ (svs_get ks j hjl)
      rw [at_add] at this
      exact this

open Go.Sort in
theorem grow_none (w : World) : grow w #[] = w := by simp [grow]
open Go.Sort in
theorem rev_row {B : Nat} {w : World} {A : Option Addr} {n c : Nat} {ks : List Bs} (h : Ow B w A n c ks) (hn : n ≤ 1000000) :
    Calls Try.prog 50 #[.slice A n c] w fun e w' => e = .returned (.tuple #[]) ∧ Ow B w' A n c ks.reverse ∧ Below (min B w.heap.size) w w' := by
  have hl := h.len
  rcases h.2 with ⟨hv, h0⟩ | ⟨g, cap, cur, hv, hb, hh, hnc, hmx, hsz, htk⟩
  · injection hv with e1 e2 e3
    subst e2
    obtain rfl := List.eq_nil_of_length_eq_zero hl
    refine (Any.slices_Reverse_string_empty Try.laysNm217 A c w).mono ?_
    rintro e w' ⟨rfl, rfl⟩
    exact ⟨rfl, h, Below.refl _ _⟩
  · injection hv with e1 e2 e3
    subst e1; subst e3
    have hks : svs ks = ks.map encStr := rfl
    have ht : cur.toList.take ks.length = ks.map encStr := by rw [← hks, hl]; simpa using htk
    have hR := Any.slices_Reverse_string Try.laysNm217 g 0 c ks w (holds_of_block hh ht) (by omega)
    rw [hl] at hR
    refine hR.mono ?_
    rintro e w' ⟨rfl, q, rfl⟩
    have o := ownsRow_sorted (n := q) (os := #[]) (ts := ks.reverse) (ss := ks) (by simp) hb hh (by omega) hmx hsz
    have gr := grownBy_sorted (w := w) (g := g) (n := q) (os := #[]) ks.reverse.toArray
    rw [grow_none] at o gr
    rw [hl] at o
    refine ⟨rfl, o, ?_⟩
    exact Below.grown (h := Below.refl _ w) (hg := gr) (by omega) (fun k hk => by injection hk with hk; omega)
end Go.Proofs.Ytnhfpaobocbieaa
