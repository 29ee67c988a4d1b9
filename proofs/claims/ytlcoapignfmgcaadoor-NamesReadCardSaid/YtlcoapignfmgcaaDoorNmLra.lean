/- What NamesRead says, plain. -/
import Derived.Test.YtlcoapignfmgcaaDoorNmKb
namespace Go.Proofs.YtlcoapignfmgcaaDoor
open Go.RowKit
set_option linter.unusedVariables false
theorem putB_head (old : List UInt8) (off : Nat) : (old.take off ++ List.replicate (off - old.length) (0 : UInt8)).length = off := by
  rw [List.length_append, List.length_take, List.length_replicate]; omega
theorem putB_read (old : List UInt8) (off : Nat) (b : List UInt8) : ((putB old off b).drop off).take (min b.length (4096 - off)) = b.take (min b.length (4096 - off)) := by
  unfold putB
  dsimp only
  have h := putB_head old off
  rw [List.append_assoc, List.drop_append, List.drop_of_length_le (by omega), h, Nat.sub_self, List.drop_zero, List.nil_append]
  rw [List.take_append_of_le_length (by rw [List.length_take]; omega), List.take_take, Nat.min_self]
theorem putB_keep (old : List UInt8) (off : Nat) (b : List UInt8) (i : Nat) (v : UInt8) (hv : (putB old off b)[i]? = some v) (hi : ¬ (off ≤ i ∧ i < off + min b.length (4096 - off))) : (i < old.length → old[i]? = some v) ∧ (old.length ≤ i → v = 0) := by
  unfold putB at hv
  dsimp only at hv
  have h := putB_head old off
  have hb : (b.take (min b.length (4096 - off))).length = min b.length (4096 - off) := by rw [List.length_take]; omega
  rw [List.append_assoc] at hv
  rcases Nat.lt_or_ge i off with h1 | h1
  · rw [List.getElem?_append_left (by omega)] at hv
    rcases Nat.lt_or_ge i old.length with h2 | h2
    · rw [List.getElem?_append_left (by rw [List.length_take]; omega), List.getElem?_take, if_pos h1] at hv
      exact ⟨fun _ => hv, fun h3 => absurd h3 (by omega)⟩
    · rw [List.getElem?_append_right (by rw [List.length_take]; omega), List.getElem?_replicate] at hv
      split at hv
      · injection hv with hv
        exact ⟨fun h3 => absurd h3 (by omega), fun _ => hv.symm⟩
      · cases hv
  · have h2 : off + min b.length (4096 - off) ≤ i := by omega
    rw [List.getElem?_append_right (by omega), h, List.getElem?_append_right (by omega), hb, List.getElem?_drop, show off + min b.length (4096 - off) + (i - off - min b.length (4096 - off)) = i by omega] at hv
    exact ⟨fun _ => hv, fun h3 => by rw [List.getElem?_eq_none h3] at hv; cases hv⟩
structure WrOk (l l' : List ND) (k off nn : Int) (b : List UInt8) (m q r : Nat) : Prop where
  km : k = (m : Int)
  mlt : m < l.length
  offq : off = (q : Int)
  nr : nn = (r : Int)
  len : l'.length = l.length
  rest : (modA l' (m : Int) fun n => { n with data := (ndAt l (m : Int)).data }) = l
  rd : readP l' k off nn = (b.take r, 0)
  rl : r ≤ b.length
  keep : ∀ i v, (ndAt l' (m : Int)).data[i]? = some v → ¬ (q ≤ i ∧ i < q + r) → (i < (ndAt l (m : Int)).data.length → (ndAt l (m : Int)).data[i]? = some v) ∧ ((ndAt l (m : Int)).data.length ≤ i → v = 0)
  bq : q ≤ 4096
  br : r ≤ 4096
theorem modA_same {l : List ND} {m : Nat} (hm : m < l.length) (f : ND → ND) (hf : f (ndAt l (m : Int)) = ndAt l (m : Int)) : modA l (m : Int) f = l := by
  unfold modA
  rw [hf, Int.toNat_natCast, ← ndAt_get hm]
  exact List.set_getElem_self hm
theorem modA_modA {l : List ND} {m : Nat} (hm : m < l.length) (f g : ND → ND) (hf : g (f (ndAt l (m : Int))) = ndAt l (m : Int)) : modA (modA l (m : Int) f) (m : Int) g = l := by
  have h1 : ndAt (modA l (m : Int) f) (m : Int) = f (ndAt l (m : Int)) := by rw [ndAt_modA hm, if_pos (Int.toNat_natCast m)]
  have h2 : modA (modA l (m : Int) f) (m : Int) g = (modA l (m : Int) f).set m (g (f (ndAt l (m : Int)))) := by
    conv => lhs; unfold modA
    rw [Int.toNat_natCast]
    show (modA l (m : Int) f).set m (g (ndAt (modA l (m : Int) f) (m : Int))) = _
    rw [h1]
  rw [h2, hf]
  unfold modA
  rw [Int.toNat_natCast, List.set_set, ← ndAt_get hm]
  exact List.set_getElem_self hm
theorem write_no {l l' : List ND} {k off nn e : Int} {b : List UInt8} (hw : writeP l k off b = (l', nn, e)) (he : e ≠ 0) : l' = l ∧ nn = 0 := by
  unfold writeP at hw
  split at hw
  · split at hw
    · injection hw with h1 h2; injection h2 with h2 h3; exact ⟨h1.symm, h2.symm⟩
    · split at hw
      · injection hw with h1 h2; injection h2 with h2 h3; exact ⟨h1.symm, h2.symm⟩
      · split at hw
        · injection hw with h1 h2; injection h2 with h2 h3; exact ⟨h1.symm, h2.symm⟩
        · injection hw with h1 h2; injection h2 with h2 h3; exact absurd h3.symm he
  · injection hw with h1 h2; injection h2 with h2 h3; exact ⟨h1.symm, h2.symm⟩
theorem file_same {l l' : List ND} {m : Nat} (hm : m < l.length) (h : checkB l' = true) (hl : l'.length = l.length) (hk : (ndAt l' (m : Int)).kind = 1) : fileP l' (m : Int) = 0 := by
  unfold fileP hasP
  have h1 : inB l' (m : Int) = true := by unfold inB; rw [decide_eq_true (by omega), decide_eq_true (by omega)]; rfl
  rw [List.all_cons, List.all_nil, h1, h, Bool.and_true, Bool.and_true, if_pos rfl, if_neg (by omega), if_neg (by omega)]
theorem write_ok {l l' : List ND} {k off nn : Int} {b : List UInt8} (h : checkB l = true) (hw : writeP l k off b = (l', nn, 0)) : ∃ m q r, WrOk l l' k off nn b m q r := by
  have hkp := (write_keeps h k off b).1
  rw [hw] at hkp
  unfold writeP at hw
  by_cases h0 : fileP l k = 0
  · rw [if_pos h0] at hw
    obtain ⟨m, rfl, hm⟩ := file_in h0
    have hk1 := (file_kind h0).2
    by_cases h1 : off < 0 ∨ 4096 < off
    · rw [if_pos h1] at hw
      injection hw with _ h2; injection h2 with _ h3; exact absurd h3 (by decide)
    · rw [if_neg h1] at hw
      obtain ⟨q, rfl⟩ : ∃ q : Nat, off = (q : Int) := ⟨off.toNat, by omega⟩
      by_cases h2 : b = []
      · rw [if_pos h2] at hw
        injection hw with e1 e2; injection e2 with e2 _
        subst e1 e2 h2
        refine ⟨m, q, 0, rfl, hm, rfl, rfl, rfl, modA_same hm _ rfl, ?_, by simp, fun i v hv _ => ⟨fun _ => hv, fun hge => by rw [List.getElem?_eq_none hge] at hv; cases hv⟩, by omega, by omega⟩
        unfold readP
        rw [if_pos h0, if_neg (by omega)]
        simp
      · rw [if_neg h2] at hw
        by_cases h3 : (q : Int) = 4096
        · rw [if_pos h3] at hw
          injection hw with _ e2; injection e2 with _ e3; exact absurd e3 (by decide)
        · rw [if_neg h3] at hw
          injection hw with e1 e2; injection e2 with e2 _
          have hq : q < 4096 := by omega
          have hnn : nn = ((min b.length (4096 - q) : Nat) : Int) := by omega
          have hat : ndAt l' (m : Int) = { ndAt l (m : Int) with data := putB (ndAt l (m : Int)).data q b } := by
            rw [← e1, ndAt_modA hm, if_pos (Int.toNat_natCast m), Int.toNat_natCast]
          have hlen : l'.length = l.length := by rw [← e1, modA_length]
          refine ⟨m, q, min b.length (4096 - q), rfl, hm, rfl, hnn, hlen, ?_, ?_, by omega, fun i v hv hi => ?_, by omega, by omega⟩
          · rw [← e1]
            exact modA_modA hm _ _ rfl
          · unfold readP
            rw [if_pos (file_same hm hkp hlen (by rw [hat]; exact hk1)), if_neg (by omega), hat, hnn, Int.toNat_natCast, Int.toNat_natCast]
            dsimp only
            rw [putB_read]
          · rw [hat] at hv
            exact putB_keep _ _ _ i v hv hi
  · rw [if_neg h0] at hw
    injection hw with _ e2; injection e2 with _ e3; exact absurd e3 h0
end Go.Proofs.YtlcoapignfmgcaaDoor
