/- Rows of settings that are sorted by their names. No program. -/
import Derived.Test.YtaibmfahfkoahaaGreatEnvV
import Derived.Shelf.SlSortCmp.WholeK
namespace Go.Proofs.YtaibmfahfkoahaaGreat
open Go.RowKit
set_option linter.unusedVariables false
theorem cmp_neg : ∀ (a b : LB), (Lib.compareBytes a b < 0 ↔ a < b)
  | [], [] => by simp [Lib.compareBytes]
  | [], _ :: _ => by simp [Lib.compareBytes]
  | _ :: _, [] => by simp [Lib.compareBytes]
  | a :: x, b :: y => by
    have ih := cmp_neg x y
    rw [Lib.compareBytes, List.cons_lt_cons_iff]
    by_cases h1 : a < b
    · simp [h1]
    · by_cases h2 : b < a
      · have h3 : a ≠ b := by rintro rfl; exact UInt8.lt_irrefl _ h2
        simp [h1, h2, h3]
      · have h3 : a = b := UInt8.le_antisymm (UInt8.not_lt.1 h2) (UInt8.not_lt.1 h1)
        simp [h3, ih]
def cfS (x y : St) : Int := Lib.compareBytes x.1 y.1
theorem cfS_lt (x y : St) : ltOf cfS x y = decide (x.1 < y.1) := by
  unfold ltOf cfS
  exact decide_eq_decide.2 (cmp_neg x.1 y.1)
theorem swoS : Sort.SWO (ltOf cfS) := by
  refine ⟨fun x => ?_, fun x y z h k => ?_, fun x y z h k => ?_⟩
  · rw [cfS_lt]; exact decide_eq_false (blt_irrefl x.1)
  · rw [cfS_lt, decide_eq_true_eq] at *; exact blt_trans h k
  · rw [cfS_lt, decide_eq_false_iff_not] at *
    intro e
    rcases blt_tri y.1 x.1 with h1 | h1 | h1
    · exact k (blt_trans h1 e)
    · exact k (h1 ▸ e)
    · exact h h1
theorem strict_unique : ∀ (a b : List St), sortedS a → sortedS b → (∀ x, x ∈ a ↔ x ∈ b) → a = b
  | [], [], _, _, _ => rfl
  | [], y :: b, _, _, h => absurd ((h y).2 List.mem_cons_self) (by simp)
  | x :: a, [], _, _, h => absurd ((h x).1 List.mem_cons_self) (by simp)
  | x :: a, y :: b, ha, hb, h => by
    have ha' := List.pairwise_cons.1 ha
    have hb' := List.pairwise_cons.1 hb
    have e : x = y := by
      rcases List.mem_cons.1 ((h x).1 List.mem_cons_self) with e | e
      · exact e
      · rcases List.mem_cons.1 ((h y).2 List.mem_cons_self) with k | k
        · exact k.symm
        · exact absurd (ha'.1 y k) (blt_asymm (hb'.1 x e))
    subst e
    congr 1
    refine strict_unique a b ha'.2 hb'.2 (fun z => ⟨fun hz => ?_, fun hz => ?_⟩)
    · rcases List.mem_cons.1 ((h z).1 (List.mem_cons_of_mem _ hz)) with e | e
      · subst e; exact absurd (ha'.1 z hz) (blt_irrefl _)
      · exact e
    · rcases List.mem_cons.1 ((h z).2 (List.mem_cons_of_mem _ hz)) with e | e
      · subst e; exact absurd (hb'.1 z hz) (blt_irrefl _)
      · exact e
theorem ins_mem (S : List St) (p x : St) : x ∈ insS S p ↔ x ∈ notK p.1 S ++ [p] := by
  unfold insS notK
  simp only [List.mem_append, List.mem_filter, List.mem_singleton, decide_eq_true_eq, bne_iff_ne]
  constructor
  · rintro ((⟨h, k⟩ | h) | ⟨h, k⟩)
    · exact .inl ⟨h, blt_ne k⟩
    · exact .inr h
    · exact .inl ⟨h, fun e => blt_ne k e.symm⟩
  · rintro (⟨h, k⟩ | h)
    · rcases blt_tri x.1 p.1 with h1 | h1 | h1
      · exact .inl (.inl ⟨h, h1⟩)
      · exact absurd h1 k
      · exact .inr ⟨h, h1⟩
    · exact .inl (.inr h)
theorem strict_of {T : List St} (h : (T.map Prod.fst).Nodup) (hs : ∀ i j (hi : i < T.length) (hj : j < T.length), i < j → ¬ T[j].1 < T[i].1) : sortedS T := by
  unfold sortedS
  rw [List.pairwise_iff_getElem]
  intro i j hi hj hij
  rcases blt_tri T[i].1 T[j].1 with h1 | h1 | h1
  · exact h1
  · unfold List.Nodup at h
    rw [List.pairwise_map, List.pairwise_iff_getElem] at h
    exact absurd h1 (h i j hi hj hij)
  · exact absurd h1 (hs i j hi hj hij)
/-- What the sort makes of the row with the setting behind it. -/
theorem sort_ins {S : List St} (h : sortedS S) (p : St) {d' : Array St} (h1 : Sort.PermIn 0 (notK p.1 S ++ [p]).toArray.size (notK p.1 S ++ [p]).toArray d') (h2 : Sort.SortedIn (ltOf cfS) 0 (notK p.1 S ++ [p]).toArray.size d') : d'.toList = insS S p := by
  obtain ⟨hz, _, hp⟩ := h1
  have hp' : d'.toList.Perm (notK p.1 S ++ [p]) := by
    have e1 : d'.extract 0 (notK p.1 S ++ [p]).toArray.size = d' := by rw [← hz]; simp
    have e2 : (notK p.1 S ++ [p]).toArray.extract 0 (notK p.1 S ++ [p]).toArray.size = (notK p.1 S ++ [p]).toArray := by
      simp
      exact List.take_of_length_le (by simp)
    rw [e1, e2] at hp
    exact hp
  have hn : ((notK p.1 S ++ [p]).map Prod.fst).Nodup := by
    rw [List.map_append, List.nodup_append]
    refine ⟨names_nodup (List.Pairwise.sublist List.filter_sublist h), by simp, fun a ha b hb => ?_⟩
    simp only [List.map_cons, List.map_nil, List.mem_singleton] at hb
    subst hb
    obtain ⟨q, hq, rfl⟩ := List.mem_map.1 ha
    unfold notK at hq
    simpa using (List.mem_filter.1 hq).2
  have hn' : (d'.toList.map Prod.fst).Nodup := (hp'.map _).nodup_iff.2 hn
  refine strict_unique _ _ (strict_of hn' fun i j hi hj hij => ?_) (ins_sorted h p) (fun x => ?_)
  · have hj' : j < d'.size := by simpa using hj
    have hi' : i < d'.size := by simpa using hi
    have := h2 i j (Nat.zero_le _) hij (by rw [← hz]; exact hj')
    rw [cfS_lt, decide_eq_false_iff_not, getElem!_pos d' i hi', getElem!_pos d' j hj'] at this
    simpa using this
  · rw [hp'.mem_iff, ins_mem]
theorem below_sort {B : Nat} {w : World} {g m : Nat} {d : Array St} {os : Array Obj} (hg : B ≤ g) (hB : B ≤ w.heap.size) : Below B w (sortWorldK ss2 2 w g 0 m d os) := by
  unfold sortWorldK Sort.putRowK Sort.putRow Sort.mapBlock Sort.grow Sort.ahead
  refine ⟨rfl, rfl, rfl, ?_, fun k hk => ?_⟩
  · show w.heap.size ≤ (w.heap.modify g _ ++ os).size
    simp
  · show (w.heap.modify g _ ++ os)[k]? = w.heap[k]?
    rw [Array.getElem?_append_left (by simp; omega), Array.getElem?_modify, if_neg (by omega)]
theorem ss2_len (x : St) : (ss2 x).length = 2 := rfl
theorem ss2_one (x : St) : ∀ v ∈ ss2 x, v.oneCell' = true := by
  intro u hu
  simp only [ss2, sv, List.mem_cons, List.not_mem_nil, or_false] at hu
  rcases hu with rfl | rfl <;> rfl
theorem pss_at! {T : List St} {j : Nat} (hj : j < T.length * 2) : (pss T)[j]? = some ((ss2 (T.toArray[j / 2]!))[j % 2]!) := by
  have hk : j / 2 < T.length := by omega
  have := pss_at T (j / 2) (j % 2) hk (by omega)
  rw [show j / 2 * 2 + j % 2 = j by omega] at this
  rw [this, getElem!_pos T.toArray (j / 2) (by simpa using hk)]
  simp only [List.getElem_toArray]
  have hm : j % 2 < (ss2 T[j / 2]).length := by rw [ss2_len]; omega
  rw [List.getElem?_eq_getElem hm, getElem!_pos (ss2 T[j / 2]) (j % 2) hm]
theorem holds_own {B : Nat} {w : World} {A : Option Addr} {n c : Nat} {T : List St} (h : OwS B w A n c T) (h0 : 0 < n) : ∃ g, A = some ⟨g, 0, none⟩ ∧ B ≤ g ∧ g < w.heap.size ∧ Sort.HoldsK ss2 2 w g 0 T.toArray := by
  have hl := h.rd.len
  rcases h.2 with ⟨_, e⟩ | ⟨g, cap, cur, hv, hb, hh, hnc, hmx, hsz, htk⟩
  · omega
  · injection hv with e1 e2 e3
    refine ⟨g, e1, hb, ?_, fun j hj => ?_⟩
    · rcases Nat.lt_or_ge g w.heap.size with hlt | hge
      · exact hlt
      · rw [Array.getElem?_eq_none hge] at hh; cases hh
    · rw [Sort.size_flatK] at hj
      have hj' : j < T.length * 2 := by simpa using hj
      rw [Sort.get_flatK _ _ _ _ hj]
      have hc : w.cell? ⟨g, j, none⟩ = cur[j]? := Blk.cell (t := 46) hh j
      have hf : w.frozen? ⟨g, j, none⟩ = false := Blk.frozen (t := 46) hh j
      rw [Nat.zero_add]
      refine ⟨?_, hf⟩
      rw [hc, id, ← pss_at! hj', ← htk, List.getElem?_take, if_pos (by omega)]
      simp
theorem rd_holds {w : World} {g n : Nat} {d : Array St} (h : Sort.HoldsK ss2 2 w g 0 d) (hg : g < w.heap.size) (hn : d.size = n) : RdS w (some ⟨g, 0, none⟩) n d.toList := by
  refine ⟨by rw [pss_length]; simp [hn], fun _ => ⟨_, rfl, hg, fun j u hu => ?_⟩⟩
  have hj : j < d.size * 2 := by
    rcases Nat.lt_or_ge j (d.size * 2) with hlt | hge
    · exact hlt
    · rw [List.getElem?_eq_none (by rw [pss_length]; simpa using hge)] at hu; cases hu
  have := (h j (by rw [Sort.size_flatK]; exact hj)).1
  rw [Sort.get_flatK _ _ _ _ hj] at this
  rw [at_add, this, ← hu, pss_at! (by simpa using hj)]
  rfl
end Go.Proofs.YtaibmfahfkoahaaGreat
