/- A child in a box: number, echo, head, counting. -/
import Derived.Test.YtlkccboongnneaaGreatDoorPgC
import Derived.Test.YtlkccboongnneaaGreatDoorPgN
import Derived.Lib.ConvBytes
namespace Go.Proofs.YtlkccboongnneaaGreatDoor
open Go.RowKit
set_option linter.unusedVariables false
theorem total_n (ks : List Bs) (sep : UInt8) : ks.length ≤ (Lib.join ks [sep]).length + 1 := by
  cases ks with
  | nil => simp
  | cons x r => rw [Lib.join_cons, List.length_append, Lib.joinTail_length]; simp; omega
theorem join_row (sep : UInt8) (A : Option Addr) (n c : Nat) (ks : List Bs) (w : World) (hR : Reads w w.heap.size 1 A n (svs ks)) (hc : n ≤ c) (hA : 0 < n → ∃ g o, A = some ⟨g, o, none⟩) (ht : (Lib.join ks [sep]).length ≤ 1000000) :
    Calls Tryz.prog 58 #[.slice A n c, .string ⟨#[sep]⟩] w fun e w' => e = .returned (.string ⟨(Lib.join ks [sep]).toArray⟩) ∧ Below w.heap.size w w' := by
  have hl : ks.length = n := by have := hR.1; rw [svs_length] at this; omega
  rcases Nat.eq_zero_or_pos n with h0 | h0
  · subst h0
    obtain rfl := List.eq_nil_of_length_eq_zero hl
    refine (Any.strings_Join_none Tryz.lays156 Tryz.Builder_Extra_156 A c ⟨#[sep]⟩ w).mono ?_
    rintro e w' ⟨rfl, rfl⟩
    exact ⟨rfl, Below.refl _ _⟩
  · obtain ⟨g, o, rfl⟩ := hA h0
    obtain ⟨ad, e1, hb, hcl⟩ := hR.2 h0
    injection e1 with e1
    subst e1
    have hlx : (ks.map fun k => (⟨k.toArray⟩ : ByteArray)).length = n := by rw [List.length_map, hl]
    have hmm : (ks.map fun k => (⟨k.toArray⟩ : ByteArray)).map (fun x => x.data.toList) = ks := by simp [List.map_map, Function.comp_def]
    have h := Any.strings_Join Tryz.lays156 Tryz.Builder_Extra_156 g o c (ks.map fun k => (⟨k.toArray⟩ : ByteArray)) ⟨#[sep]⟩ w ?_ hb (by rw [hlx]; have := total_n ks sep; omega) (by rw [hlx]; exact hc) (by rw [hmm]; show (Lib.join ks [sep]).length ≤ _; omega)
    · rw [hlx, hmm] at h
      exact h
    · intro j x hj
      rw [List.getElem?_map] at hj
      have hjl : j < ks.length := by
        rcases Nat.lt_or_ge j ks.length with h | h
        · exact h
        · rw [List.getElem?_eq_none h] at hj; cases hj
      rw [List.getElem?_eq_getElem hjl] at hj
      simp only [Option.map_some, Option.some.injEq] at hj
      subst hj
      have := hcl j _ (svs_get ks j hjl)
      rw [at_add] at this
      exact this

theorem catB (a b : Bs) : ((⟨a.toArray⟩ : ByteArray) ++ ⟨b.toArray⟩) = ⟨(a ++ b).toArray⟩ := by
  apply ByteArray.ext
  simp
/-- '[]byte(text)'. -/
theorem conv_od (s : Bs) (W : World) : ∃ W' D n cap, (convert 9 24 (.string ⟨s.toArray⟩)).run Tryz.prog W = .ok (.slice D n cap) W' ∧ n = s.length ∧ Od W.heap.size W' D n cap s ∧ Below W.heap.size W W' := by
  have h := Lib.run_convert_string_bytes (P := Tryz.prog) W 9 24 5 ⟨s.toArray⟩ Tryz.underlying9 Tryz.underlying24 Tryz.underlying5
  have hsz := Lib.bytesWorld_size W 5 ⟨s.toArray⟩
  have hnew := Lib.bytesWorld_at_new W 5 ⟨s.toArray⟩
  refine ⟨_, _, _, _, h, rfl, ⟨⟨by rw [bv_length, Nat.mul_one]; rfl, fun _ => ⟨_, rfl, by show W.heap.size < _; omega, ?_⟩⟩, ?_, fun _ => ⟨_, _, _, rfl, Nat.le_refl _, hnew⟩⟩, Lib.bytesWorld_below W 5 _⟩
  · intro j u hu
    rw [at_add, Nat.zero_add, cell_of_row _ _ j _ 5 _ hnew]
    unfold Lib.bytesCells
    have hj : j < s.length := by
      rcases Nat.lt_or_ge j s.length with h | h
      · exact h
      · rw [List.getElem?_eq_none (by rw [bv_length]; omega)] at hu; cases hu
    rw [Array.getElem?_append_left (by simpa using hj)]
    simpa [bv] using hu
  · exact Nat.le_of_not_lt fun hlt => by
      have := grownCap_ge W (⟨s.toArray⟩ : ByteArray).size 0 5
      omega
end Go.Proofs.YtlkccboongnneaaGreatDoor
