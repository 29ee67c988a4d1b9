/- The changes of NamesKeeps, plain. -/
import Derived.Test.YtlcoapignfmgcaaDoorNmKa
namespace Go.Proofs.YtlcoapignfmgcaaDoor
open Go.RowKit
set_option linter.unusedVariables false
structure DO where
  what : Int
  a : Int
  b : Int
  x : List UInt8
  y : List UInt8
  kind : Int
  d : List UInt8
/-- One change. -/
def doP (l : List ND) (q : DO) : List ND × Int :=
  if q.what = 1 then ((createP l q.a q.x ⟨q.kind, 7, 0, [], [], q.y⟩).1, (createP l q.a q.x ⟨q.kind, 7, 0, [], [], q.y⟩).2.2)
  else if q.what = 2 then linkP l q.a q.b q.x
  else if q.what = 3 then unlinkP l q.a q.x
  else if q.what = 4 then renameP l q.a q.x q.b q.y
  else if q.what = 5 then ((writeP l q.a q.b q.d).1, (writeP l q.a q.b q.d).2.2)
  else if q.what = 6 then truncP l q.a
  else (l, 0)
theorem modA_names (l : List ND) (k : Int) (f : ND → ND) (hf : ∀ n, (f n).names = n.names) : (allNames (modA l k f)).length = (allNames l).length ∧ ∀ M, (∀ n ∈ l, n.names.length ≤ M) → ∀ n ∈ modA l k f, n.names.length ≤ M := by
  unfold modA
  by_cases hk : k.toNat < l.length
  · have h := names_set (fun _ => true) l k.toNat (f (ndAt l k)) hk
    have e : l[k.toNat] = ndAt l k := by
      unfold ndAt
      rw [List.getD_eq_getElem?_getD, List.getElem?_eq_getElem hk]
      rfl
    rw [e, hf] at h
    simp only [List.countP_true] at h
    refine ⟨by omega, fun M hM n hn => ?_⟩
    rcases List.mem_or_eq_of_mem_set hn with hn | hn
    · exact hM n hn
    · rw [hn, hf, ← e]
      exact hM _ (List.getElem_mem hk)
  · rw [List.set_eq_of_length_le (by omega)]
    exact ⟨rfl, fun M hM => hM⟩
theorem trunc_kept {l : List ND} (h : checkB l = true) (k : Int) : Kept l (truncP l k).1 ∧ ((truncP l k).2 ≠ 0 → (truncP l k).1 = l) := by
  obtain ⟨h1, h2, h3⟩ := trunc_keeps h k
  refine ⟨?_, h3⟩
  unfold truncP at h1 h2 ⊢
  by_cases h0 : fileP l k = 0
  · rw [if_pos h0] at h1 h2 ⊢
    obtain ⟨a, b⟩ := modA_names l k (fun n => { n with data := [] }) (fun _ => rfl)
    exact ⟨h1, by omega, by omega, by dsimp only; omega, fun M hM n hn => Nat.le_succ_of_le (b M hM n hn)⟩
  · rw [if_neg h0]; exact .refl h
theorem write_kept {l : List ND} (h : checkB l = true) (k off : Int) (b : List UInt8) : Kept l (writeP l k off b).1 ∧ ((writeP l k off b).2.2 ≠ 0 → (writeP l k off b).1 = l) := by
  obtain ⟨h1, h2, h3⟩ := write_keeps h k off b
  refine ⟨?_, h3⟩
  unfold writeP at h1 h2 ⊢
  by_cases h0 : fileP l k = 0
  · rw [if_pos h0] at h1 h2 ⊢
    by_cases c1 : off < 0 ∨ 4096 < off
    · rw [if_pos c1]; exact .refl h
    · rw [if_neg c1] at h1 h2 ⊢
      by_cases c2 : b = []
      · rw [if_pos c2]; exact .refl h
      · rw [if_neg c2] at h1 h2 ⊢
        by_cases c3 : off = 4096
        · rw [if_pos c3]; exact .refl h
        · rw [if_neg c3] at h1 h2 ⊢
          obtain ⟨a, b⟩ := modA_names l k (fun n => { n with data := putB n.data off.toNat b }) (fun _ => rfl)
          exact ⟨h1, by omega, by omega, by dsimp only; omega, fun M hM n hn => Nat.le_succ_of_le (b M hM n hn)⟩
  · rw [if_neg h0]; exact .refl h
theorem do_keeps {l : List ND} (h : checkB l = true) (q : DO) : Kept l (doP l q).1 ∧ ((doP l q).2 ≠ 0 → (doP l q).1 = l) := by
  unfold doP
  split
  · exact create_keeps h _ _ _
  · split
    · exact link_keeps h _ _ _
    · split
      · exact unlink_keeps h _ _
      · split
        · exact rename_keeps h _ _ _ _
        · split
          · exact write_kept h _ _ _
          · split
            · exact trunc_kept h _
            · exact ⟨.refl h, fun _ => rfl⟩
/-- A file system that may be behind i changes. -/
structure Inv6 (l : List ND) (i : Nat) : Prop where
  ck : checkB l = true
  n : l.length ≤ 60 + i
  m : ∀ n ∈ l, n.names.length ≤ 100 + i
  a : (allNames l).length ≤ 200 + i
theorem Inv6.next {l l' : List ND} {i : Nat} (h : Inv6 l i) (k : Kept l l') : Inv6 l' (i + 1) :=
  ⟨k.ck, by have := k.le; have := h.n; omega, fun n hn => by have := k.each _ h.m n hn; omega, by have := k.all; have := h.a; omega⟩
theorem inv_start {X : List DV} (h : FewB6 X) (hc : checkB (nds X) = true) : Inv6 (nds X) 0 := by
  refine ⟨hc, by rw [nds_length]; exact h.n, fun n hn => ?_, by rw [← upto_all]; exact h.all⟩
  unfold nds at hn
  obtain ⟨x, hx, rfl⟩ := List.mem_map.1 hn
  exact (h.each x hx).n
theorem nodeB_few {n : ND} {c : Int} (h : nodeB n c = true) (hm : n.names.length ≤ 200) : n.data.length ≤ 5000 ∧ n.to.length ≤ 600 ∧ ∀ y ∈ n.names, y.name.length ≤ 300 := by
  have hn := (nodeB_dir h).2
  have hy : ∀ y ∈ n.names, y.name.length ≤ 300 := fun y hy => by
    have := hn y hy
    unfold nameB at this
    simp only [Bool.and_eq_true, decide_eq_true_eq] at this
    omega
  unfold nodeB at h
  simp only [Bool.and_eq_true] at h
  obtain ⟨-, h⟩ := h
  split at h
  · simp only [Bool.and_eq_true, decide_eq_true_eq, List.isEmpty_iff] at h
    exact ⟨by omega, by rw [h.2]; simp, hy⟩
  · split at h
    · simp only [Bool.and_eq_true, List.isEmpty_iff] at h
      exact ⟨by rw [h.1.2]; simp, by rw [h.2]; simp, hy⟩
    · split at h
      · simp only [Bool.and_eq_true, decide_eq_true_eq, List.isEmpty_iff] at h
        exact ⟨by rw [h.1.2]; simp, by have := h.1.1.1.2; omega, hy⟩
      · cases h
theorem Inv6.few {X : List DV} {i : Nat} (h : Inv6 (nds X) i) (hi : i ≤ 31) : FewB X := by
  refine ⟨by have := h.n; rw [nds_length] at this; omega, fun x hx => ?_, by rw [upto_all]; have := h.a; omega⟩
  have hm : x.r ∈ nds X := by unfold nds; exact List.mem_map.2 ⟨x, hx, rfl⟩
  have h1 := (checkB_facts h.ck).2.2.1 _ hm
  have h2 := h.m _ hm
  obtain ⟨a, b, c⟩ := nodeB_few h1 (by omega)
  exact ⟨a, b, by omega, c⟩
end Go.Proofs.YtlcoapignfmgcaaDoor
