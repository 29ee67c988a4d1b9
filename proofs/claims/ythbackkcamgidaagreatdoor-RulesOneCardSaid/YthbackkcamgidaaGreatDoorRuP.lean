/- slices.Equal of integers and of texts; a rule put behind the reader's. -/
import Derived.Test.YthbackkcamgidaaGreatDoorRuO
import Derived.Shelf.Slices.Empties2
namespace Go.Proofs.YthbackkcamgidaaGreatDoor
open Go Go.RowKit
set_option linter.unusedVariables false
theorem getD_of {α : Type} {l : List α} {j : Nat} (h : j < l.length) (d : α) : l.getD j d = l[j] := by simp [List.getD_eq_getElem?_getD, h]
theorem eqI_any (l1 l2 : List Int) (A B : Option Addr) (n c m d : Nat) (w : World) (h1 : Reads w w.heap.size 1 A n (ivs l1)) (h2 : Reads w w.heap.size 1 B m (ivs l2)) (hn : n ≤ 1000000) (hm : m ≤ 1000000) :
    Calls Tryz.prog 60 #[.slice A n c, .slice B m d] w fun e w' => e = .returned (.bool (l1 == l2)) ∧ ∃ q, w' = w.drewN q := by
  have hl1 : l1.length = n := by have := h1.1; rw [ivs_length] at this; omega
  have hl2 : l2.length = m := by have := h2.1; rw [ivs_length] at this; omega
  by_cases hnm : n = m
  · subst hnm
    by_cases h0 : n = 0
    · subst h0
      obtain rfl := List.eq_nil_of_length_eq_zero hl1
      obtain rfl := List.eq_nil_of_length_eq_zero hl2
      refine (Any.slices_Equal_int_empty Tryz.lays111 A B c 0 d w (by omega)).mono ?_
      rintro e w' ⟨rfl, rfl⟩
      exact ⟨rfl, 0, rfl⟩
    · obtain ⟨g1, o1, rfl, _, c1⟩ := cells_of h1 (by omega) (by rw [ivs_length]; omega)
      obtain ⟨g2, o2, rfl, _, c2⟩ := cells_of h2 (by omega) (by rw [ivs_length]; omega)
      refine (Any.slices_Equal_int Tryz.lays111 g1 o1 n c g2 o2 n d l1 l2 w (by omega) (by omega) (by omega) (by omega) (fun j hj => ?_) (fun j hj => ?_)).mono ?_
      · rw [getD_of hj]; exact c1 j _ (ivs_get l1 j hj)
      · rw [getD_of hj]; exact c2 j _ (ivs_get l2 j hj)
      · rintro e w' ⟨rfl, q, rfl⟩
        rw [List.take_of_length_le (by omega), List.take_of_length_le (by omega)]
        exact ⟨rfl, q, rfl⟩
  · have hne : (l1 == l2) = false := beq_eq_false_iff_ne.2 (by rintro rfl; omega)
    rw [hne]
    refine (Any.slices_Equal_int_lens Tryz.lays111 A B n c m d w hnm).mono ?_
    rintro e w' ⟨rfl, rfl⟩
    exact ⟨rfl, 0, rfl⟩
theorem eqS_any (l1 l2 : List LB) (A B : Option Addr) (n c m d : Nat) (w : World) (h1 : Reads w w.heap.size 1 A n (svs l1)) (h2 : Reads w w.heap.size 1 B m (svs l2)) (hn : n ≤ 1000000) (hm : m ≤ 1000000) :
    Calls Tryz.prog 61 #[.slice A n c, .slice B m d] w fun e w' => e = .returned (.bool (l1 == l2)) ∧ ∃ q, w' = w.drewN q := by
  have hl1 : l1.length = n := by have := h1.1; rw [svs_length] at this; omega
  have hl2 : l2.length = m := by have := h2.1; rw [svs_length] at this; omega
  by_cases hnm : n = m
  · subst hnm
    by_cases h0 : n = 0
    · subst h0
      obtain rfl := List.eq_nil_of_length_eq_zero hl1
      obtain rfl := List.eq_nil_of_length_eq_zero hl2
      refine (Any.slices_Equal_string_empty Tryz.lays193 A B c 0 d w (by omega)).mono ?_
      rintro e w' ⟨rfl, rfl⟩
      exact ⟨rfl, 0, rfl⟩
    · obtain ⟨g1, o1, rfl, _, c1⟩ := cells_of h1 (by omega) (by rw [svs_length]; omega)
      obtain ⟨g2, o2, rfl, _, c2⟩ := cells_of h2 (by omega) (by rw [svs_length]; omega)
      refine (Any.slices_Equal_string Tryz.lays193 g1 o1 n c g2 o2 n d (l1.map bx) (l2.map bx) w (by simp; omega) (by simp; omega) (by omega) (by omega) (fun j hj => ?_) (fun j hj => ?_)).mono ?_
      · rw [getD_of hj, List.getElem_map]; exact c1 j _ (svs_get l1 j (by simpa using hj))
      · rw [getD_of hj, List.getElem_map]; exact c2 j _ (svs_get l2 j (by simpa using hj))
      · rintro e w' ⟨rfl, q, rfl⟩
        rw [List.take_of_length_le (by simp; omega), List.take_of_length_le (by simp; omega)]
        refine ⟨ret_bool ?_, q, rfl⟩
        rw [Bool.eq_iff_iff, decide_eq_true_eq, beq_iff_eq]
        exact List.map_inj_right (fun x y h => by unfold bx at h; simpa using h)
  · have hne : (l1 == l2) = false := beq_eq_false_iff_ne.2 (by rintro rfl; omega)
    rw [hne]
    refine (Any.slices_Equal_string_lens Tryz.lays193 A B n c m d w hnm).mono ?_
    rintro e w' ⟨rfl, rfl⟩
    exact ⟨rfl, 0, rfl⟩
/-- The reader's rules grown, its slice stored. -/
theorem RdI.push_rule {p B : Nat} {s : RS} {P : PL} {num : Int} {fi : Bool} {w w2 : World} (h : RdI p B s P num fi w) (x0 : RV) (hx0 : RVok B w x0) {A' : Option Addr} {c' : Nat} 
    (hown : w2.ownsRow B 40 6 (.slice A' (s.rn + 1) c') (s.rn + 1) (rus s.L ++ x0.cs)) (hg : w.grownBy w2 (Value.slice s.RA s.rn s.rc).ownBlock) :
    RdI p B { s with RA := A', rn := s.rn + 1, rc := c', L := s.L ++ [x0] } { P with rules := P.rules ++ [x0.r] } num fi (w2.setCell ⟨p, 1, none⟩ (.slice A' (s.rn + 1) c')) ∧ Fr p w (w2.setCell ⟨p, 1, none⟩ (.slice A' (s.rn + 1) c')) := by
  have hlo := h.lo
  have hhi := h.hi
  have hrow : ∀ g, (Value.slice s.RA s.rn s.rc).ownBlock = some g → B ≤ g ∧ ∃ cs z, w.heap[g]? = some (.cells cs 40 z) := fun g hgb => by
    refine ⟨(World.ownsRow.lt h.rules g hgb).1, ?_⟩
    rcases h.rules.2 with ⟨hv, h0⟩ | ⟨g', cap, cur, hv, hb, hh, _⟩
    · injection hv with e1 e2 e3
      rw [e1] at hgb; cases hgb
    · injection hv with e1 e2 e3
      rw [e1] at hgb
      have : g' = g := by simpa [Value.ownBlock] using hgb
      subst this
      exact ⟨_, _, hh⟩
  have hk1 : ∀ k o, w.heap[k]? = some o → (k < B ∨ ∀ cs z, o ≠ .cells cs 40 z) → w2.heap[k]? = some o := fun k o ho hc => by
    refine (hg.block k (Array.getElem?_eq_some_iff.1 ho).1 (fun e => ?_)).trans ho
    obtain ⟨h1, cs, z, h2⟩ := hrow k e.symm
    rcases hc with hc | hc
    · omega
    · rw [ho] at h2; injection h2 with h2; exact hc cs z h2
  have hfr1 : Fr p w w2 := ⟨hg.os, hg.tape, hg.output, hg.size, fun k o ho hc => hk1 k o ho (by
    rcases hc with hc | hc
    · exact .inl (by omega)
    · exact .inr (fun cs z e => (hc _ _ _ e).2.1 rfl))⟩
  have hb2 : Blk w2 p 67 _ := hk1 p _ h.blk (.inl (by omega))
  have hfr2 : Fr p w2 (w2.setCell ⟨p, 1, none⟩ (.slice A' (s.rn + 1) c')) := ⟨rfl, rfl, rfl, by simp, fun k o ho hc => by
    refine (Below.heap_setCell w2 ⟨p, 1, none⟩ _ k ?_).trans ho
    intro e
    have e' : k = p := e
    rw [e'] at ho hc
    rcases hc with hc | hc
    · omega
    · unfold Blk at hb2
      rw [hb2] at ho
      injection ho with ho
      exact (hc _ _ _ ho.symm).1 rfl⟩
  refine ⟨⟨?_, ?_, fun x hx => ?_, ?_, ?_, hlo, by have := hg.size; simp; omega⟩, hfr1.trans hfr2⟩
  · exact hb2.set_ 1 _
  · show World.ownsRow _ _ _ _ _ _ (rus (s.L ++ [x0]))
    rw [rus_append]
    have : rus [x0] = x0.cs := by simp [rus]
    rw [this]
    exact own_far hown (p := ⟨p, 1, none⟩) (by show p < B; omega) _
  · rcases List.mem_append.1 hx with hx | hx
    · exact ((h.ok x hx).fr hfr1).fr hfr2
    · rw [List.mem_singleton.1 hx]; exact (hx0.fr hfr1).fr hfr2
  · show (s.L ++ [x0]).map RV.r = _
    rw [List.map_append, h.eq]; rfl
  · have h1 : w2.ownsRow B 42 3 (.slice s.EA s.en s.ec) s.en (ecs P.env) := by
      refine ⟨h.env.1, ?_⟩
      rcases h.env.2 with h0 | ⟨g, cap, cur, hv, hb, hh, rest⟩
      · exact .inl h0
      · exact .inr ⟨g, cap, cur, hv, hb, hk1 g _ hh (.inr (fun cs z e => by injection e with e1 e2; cases e2)), rest⟩
    exact own_far h1 (p := ⟨p, 1, none⟩) (by show p < B; omega) _
end Go.Proofs.YthbackkcamgidaaGreatDoor
