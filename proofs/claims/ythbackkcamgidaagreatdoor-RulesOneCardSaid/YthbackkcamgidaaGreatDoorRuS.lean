/- Texts: their bytes, pieces; cells of rows. -/
import Derived.Test.YthbackkcamgidaaGreatDoorNdPm
import Derived.Laws.BytesString
namespace Go.Proofs.YthbackkcamgidaaGreatDoor
open Go.RowKit
set_option linter.unusedVariables false
theorem ext_two (l : Bs) (i j : Nat) : (⟨l.toArray⟩ : ByteArray).extract i j = ⟨((l.drop i).take (j - i)).toArray⟩ := by
  apply ByteArray.ext
  apply Array.toList_inj.1
  simp
theorem ext_from (l : Bs) (i : Nat) : (⟨l.toArray⟩ : ByteArray).extract i l.length = ⟨(l.drop i).toArray⟩ := by
  rw [ext_two, List.take_of_length_le (by simp)]
theorem ix_l (l : Bs) (i : Nat) (c : UInt8) (h : l[i]? = some c) (W : World) : (Instr.index 9 (.string ⟨l.toArray⟩) (.int .i64 (i : Int))).run Tryz.prog W = .ok (.int .u8 (c.toNat : Int)) W := by
  obtain ⟨h1, h2⟩ := List.getElem?_eq_some_iff.1 h
  rw [run_index_string (P := Tryz.prog) W 9 _ .i64 (i : Int) Tryz.underlying9, dif_pos ⟨by omega, by show (i : Int) < ((l.length : Nat) : Int); omega⟩]
  simp only [Int.toNat_natCast]
  rw [← h2]
  rfl
theorem u8_eq (x c : UInt8) : ((x.toNat : Int) == (c.toNat : Int)) = (x == c) := by
  rw [Bool.eq_iff_iff, beq_iff_eq, beq_iff_eq]
  exact ⟨fun h => UInt8.toNat_inj.1 (by omega), fun h => by rw [h]⟩
set_option maxRecDepth 100000 in
set_option maxHeartbeats 4000000 in
theorem cells_of {w : World} {B size n : Nat} {A : Option Addr} {xs : List Value} (h : Reads w B size A n xs) (h0 : 0 < n) (hx : 0 < xs.length) : ∃ g o, A = some ⟨g, o, none⟩ ∧ g < B ∧ ∀ j u, xs[j]? = some u → w.cell? ⟨g, o + j, none⟩ = some u := by
  obtain ⟨ad, rfl, hb, hc⟩ := h.2 h0
  have h00 := hc 0 xs[0] (List.getElem?_eq_getElem hx)
  rw [add_zero_] at h00
  have hs : ad = ⟨ad.block, ad.off, none⟩ := by
    obtain ⟨b, o, s⟩ := ad
    cases s with
    | none => rfl
    | some x =>
      unfold World.cell? at h00
      split at h00 <;> simp at h00
  refine ⟨ad.block, ad.off, by rw [← hs], hb, fun j u hj => ?_⟩
  have := hc j u hj
  rw [hs, at_add] at this
  exact this
end Go.Proofs.YthbackkcamgidaaGreatDoor
