/- env.Of: a map from names to settings, its sorted names. -/
import Derived.Test.YtaibmfahfkoahaaGreatEnvB
import Derived.Test.YtaibmfahfkoahaaGreatIter
import Derived.Maps.OwnSet
import Derived.Sort.KeysCollected
namespace Go.Proofs.YtaibmfahfkoahaaGreat
open Go.RowKit
open Go.Maps
set_option linter.unusedVariables false
def dS (p : St) : DataW Unit := .agg [.lit (.string p.1), .lit (.string p.2)]
def setElemL : List Value → Option (DataW Unit × List MemPlace)
  | [.string a, .string b] => some (dS (a.data.toList, b.data.toList), [])
  | _ => none
/-- How a setting reads in a map. -/
def setElem : Value → Option (DataW Unit × List MemPlace)
  | .agg cs => setElemL cs.toList
  | _ => none
theorem setElem_mk (p : St) : setElem (St.v p) = some (dS p, []) := by
  unfold St.v setElem
  simp [setElemL]
theorem setElem_inv {v : Value} {p : St} {ps : List MemPlace} (h : setElem v = some (dS p, ps)) : v = St.v p := by
  unfold setElem at h
  split at h
  · rename_i cs
    unfold setElemL at h
    split at h
    · rename_i a b e
      injection h with h
      injection h with h _
      unfold dS at h
      injection h with h
      injection h with h1 h
      injection h with h2 _
      injection h1 with h1
      injection h1 with h1
      injection h2 with h2
      injection h2 with h2
      unfold St.v
      rw [← h1, ← h2]
      congr 1
      apply Array.ext'
      rw [e]
    · cases h
  · cases h
theorem keyS : Keyed Tryz.prog 9 := string_keyed Tryz.underlying9
theorem key_s (x : LB) (h : x.length ≤ 1000000) : keyOf Tryz.prog 9 (.string ⟨x.toArray⟩) = some (.string x) := Go.WideMaps.keyOf_string_mk Tryz.underlying9 (s := ⟨x.toArray⟩) (by show x.length ≤ maxLen; unfold maxLen; omega)
/-- A map that holds a row's settings under their names. -/
def EMap (w : World) (b n : Nat) (S : List St) : Prop := ∃ D : DataW Unit, w.ownsMap Tryz.prog 9 setElem b n D ∧ (∀ x : LB, has D (.string x) = (lookS S x).isSome) ∧ ∀ (x v : LB), lookS S x = some v → ∀ z, D.atKey (.string x) z = dS (x, v)
theorem EMap.made (w : World) : EMap (w.alloc (.map #[] 0)) w.heap.size 0 [] := ⟨.map [], World.ownsMap_made _ _ _ _, fun x => rfl, fun x v h => by cases h⟩
theorem map_kept {w w' : World} {b n : Nat} {D : DataW Unit} (h : w.ownsMap Tryz.prog 9 setElem b n D) (hb : w'.heap[b]? = w.heap[b]?) : w'.ownsMap Tryz.prog 9 setElem b n D := by
  obtain ⟨es, clock, h1, h2⟩ := h
  exact ⟨es, clock, hb.trans h1, h2⟩
theorem EMap.kept {w w' : World} {b n : Nat} {S : List St} (h : EMap w b n S) (hb : w'.heap[b]? = w.heap[b]?) : EMap w' b n S := by
  obtain ⟨D, h1, h2⟩ := h
  exact ⟨D, map_kept h1 hb, h2⟩
theorem EMap.more {w : World} {b n m : Nat} {S : List St} (h : EMap w b n S) (hnm : n ≤ m) : EMap w b m S := by
  obtain ⟨D, h1, h2⟩ := h
  exact ⟨D, h1.mono hnm, h2⟩
theorem EMap.lt {w : World} {b n : Nat} {S : List St} (h : EMap w b n S) : b < w.heap.size := by
  obtain ⟨D, h1, _⟩ := h
  exact h1.lt
theorem str_key (x : LB) : WideAt.IsKeyLit (.string x) := trivial
theorem EMap.put {w' : World} {b n : Nat} {S : List St} {p : St} {D : DataW Unit} (hw : w'.ownsMap Tryz.prog 9 setElem b (n + 1) (D.put (.string p.1) (dS p))) (hm : IsMap D)
    (h1 : ∀ x : LB, has D (.string x) = (lookS S x).isSome) (h2 : ∀ (x v : LB), lookS S x = some v → ∀ z, D.atKey (.string x) z = dS (x, v)) : EMap w' b (n + 1) (insS S p) := by
  refine ⟨_, hw, fun x => ?_, fun x v h z => ?_⟩
  · rw [ins_look]
    by_cases hx : x = p.1
    · subst hx
      rw [has_put_same hm (str_key _), if_pos rfl]; rfl
    · rw [has_put_other (fun e => hx (by injection e)), if_neg hx, h1]
  · rw [ins_look] at h
    by_cases hx : x = p.1
    · subst hx
      rw [if_pos rfl] at h
      injection h with h
      rw [atKey_put_same hm (str_key _), ← h]
    · rw [if_neg hx] at h
      rw [atKey_put_other (fun e => hx (by injection e)), h2 x v h]
theorem look_mem {S : List St} (h : sortedS S) {p : St} (hp : p ∈ S) : lookS S p.1 = some p.2 := by
  unfold lookS
  induction S with
  | nil => cases hp
  | cons q r ih =>
    rcases List.mem_cons.1 hp with rfl | hp
    · rw [List.find?_cons_of_pos (by simp)]; rfl
    · have hlt := (List.pairwise_cons.1 h).1 p hp
      rw [List.find?_cons_of_neg (by simpa using blt_ne hlt)]
      exact ih (List.pairwise_cons.1 h).2 hp
theorem look_some {S : List St} {x : LB} (h : (lookS S x).isSome = true) : x ∈ S.map Prod.fst := by
  unfold lookS at h
  rw [Option.isSome_map, List.find?_isSome] at h
  obtain ⟨p, hp, e⟩ := h
  exact List.mem_map.2 ⟨p, hp, by simpa using e⟩
theorem names_nodup {S : List St} (h : sortedS S) : (S.map Prod.fst).Nodup := List.pairwise_map.2 (h.imp fun hlt => blt_ne hlt)
theorem names_perm {w : World} {b n : Nat} {S : List St} {D : DataW Unit} (hw : w.ownsMap Tryz.prog 9 setElem b n D) (h1 : ∀ x : LB, has D (.string x) = (lookS S x).isSome) (hs : sortedS S) : (S.map Prod.fst).Perm (strKeys D) ∧ Maps.size D = S.length := by
  obtain ⟨es, hD, hpw, _⟩ := hw.entries keyS
  obtain ⟨es', hD', hko⟩ := hw.keysOf
  obtain rfl : es = es' := by rw [hD] at hD'; simpa using hD'
  subst hD
  have hp : (S.map Prod.fst).Perm (strKeys (.map es)) := perm_strKeys hpw (fun p hp => by obtain ⟨v, hv⟩ := hko p hp; obtain ⟨x, _, hx, _⟩ := Maps.keyOf_str Tryz.underlying9 hv; exact ⟨x, hx⟩) (names_nodup hs) (fun x => by
    rw [h1 x]
    constructor
    · intro hx
      obtain ⟨p, hp, rfl⟩ := List.mem_map.1 hx
      rw [look_mem hs hp]; rfl
    · exact look_some)
  refine ⟨hp, ?_⟩
  have := hp.length_eq
  rw [List.length_map] at this
  rw [this]
  show es.length = (es.map fun p => strOf p.1).length
  rw [List.length_map]
theorem names_sort {S : List St} (hs : sortedS S) {ss : List LB} (hp : ss.Perm (S.map Prod.fst)) : ss.mergeSort leB = S.map Prod.fst := by
  rw [mergeSort_of_perm hp]
  apply List.mergeSort_of_pairwise
  refine List.pairwise_map.2 (hs.imp fun {p q} hlt => ?_)
  show decide (p.1 ≤ q.1) = true
  exact decide_eq_true (List.le_of_lt hlt)
theorem str_at (g1 o m k q : Nat) (i : Int) (hi : i = (q : Int)) (hq : q < m) (W : World) : (Instr.indexAt 22 (.slice (some ⟨g1, o, none⟩) m k) (.int .i64 i)).run Tryz.prog W = .ok (.pointer (some ⟨g1, o + q, none⟩)) W := by
  subst hi
  have hE : Tryz.prog.elem 22 = 9 := by simp [Program.elem, Tryz.underlying22]
  rw [run_indexAt_slice W 22 ⟨g1, o, none⟩ m k .i64 (q : Int) (slice_ht Tryz.underlying22), if_pos ⟨by omega, by omega⟩]
  rw [hE, run_sizeOf_n sizeStr W]
  simp only [Result.andThen, Int.toNat_natCast, at_add, Nat.mul_one]
theorem EMap.look {w : World} {b n : Nat} {S : List St} (h : EMap w b n S) (hs : sortedS S) {p : St} (hp : p ∈ S) (hl : p.1.length ≤ 1000000) : (Instr.lookup 55 (.map (some b)) (.string ⟨p.1.toArray⟩) false).run Tryz.prog w = .ok (St.v p) w := by
  obtain ⟨D, h1, h2, h3⟩ := h
  have hz : (zeroValue 46).run Tryz.prog w = .ok (St.v ([], [])) w := by
    have := Tryz.zeroValue46 (w := w)
    exact this
  obtain ⟨v, ps, hrun, hv⟩ := h1.lookup keyS Tryz.underlying55 hz (setElem_mk ([], [])) (key_s p.1 hl)
  rw [h3 p.1 p.2 (look_mem hs hp)] at hv
  rw [hrun, setElem_inv hv]
end Go.Proofs.YtaibmfahfkoahaaGreat
