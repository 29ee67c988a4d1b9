/- Contracts of glob.split, of what fits a part, and of glob.run at texts. -/
import Derived.Test.YteclcjpbebimeaaDoorGlobP
namespace Go.Proofs.YteclcjpbebimeaaDoor
open Go.RowKit
set_option linter.unusedVariables false
def splitP (l : Bs) : List Bs := if l = [47] then [] else splitC 47 (l.drop 1)
theorem splitC_each (c : UInt8) (s : Bs) : ∀ k ∈ splitC c s, k.length ≤ s.length := by
  induction s with
  | nil => intro k hk; simp [splitC] at hk; subst hk; exact Nat.le_refl _
  | cons x r ih =>
    obtain ⟨h, t, e⟩ := splitC_form c r
    rw [splitC]
    rw [e] at ih ⊢
    split
    · intro k hk
      rcases List.mem_cons.1 hk with rfl | hk
      · simp
      · have := ih k hk; simp; omega
    · intro k hk
      rcases List.mem_cons.1 hk with rfl | hk
      · have := ih h (by simp); simp; omega
      · have := ih k (List.mem_cons_of_mem _ hk); simp; omega
theorem splitP_each (l : Bs) : ∀ k ∈ splitP l, k.length ≤ l.length := by
  intro k hk
  unfold splitP at hk
  split at hk
  · cases hk
  · have := splitC_each 47 _ k hk
    rw [List.length_drop] at this
    omega
theorem splitP_len (l : Bs) : (splitP l).length ≤ l.length + 1 := by
  unfold splitP
  split
  · simp
  · have := splitC_le 47 (l.drop 1)
    rw [List.length_drop] at this
    omega
set_option maxHeartbeats 1000000 in
theorem split_any (l : Bs) (h0 : 1 ≤ l.length) (hl : l.length ≤ 1024) (w : World) (hS : Std w) : Calls Tryd.prog 18 #[.string ⟨l.toArray⟩] w fun e w' => ∃ A n c, e = .returned (.slice A n c) ∧ Reads w' w'.heap.size 1 A n (svs (splitP l)) ∧ Below w.heap.size w w' := by
  by_cases h1 : l = [47]
  · subst h1
    have hp : splitP [47] = [] := rfl
    rw [hp]
    go_enter Tryd.func18, Tryd.ntmps18
    go_wp2_with fail
    go_ret
    exact ⟨none, 0, 0, rfl, Reads.none_, Below.refl _ _⟩
  · have hp : splitP l = splitC 47 (l.drop 1) := by unfold splitP; rw [if_neg h1]
    rw [hp]
    have hne : (l == [47]) = false := beq_eq_false_iff_ne.2 h1
    obtain ⟨m, hm⟩ := hS
    have hd : (l.drop 1).length ≤ 1024 := by rw [List.length_drop]; omega
    have HSp := hide (split_c ⟨(l.drop 1).toArray⟩ m w (show (l.drop 1).length ≤ 100000 by omega) hm)
    have h01 : (1 : Int) ≤ (l.length : Int) := by omega
    clear hm hp h1
    go_enter Tryd.func18, Tryd.ntmps18
    go_wp2_with fail
    rw [ext_from]
    refine HSp.out.mono ?_
    rintro e w1 ⟨rfl, rfl⟩
    go_wp2_with fail
    go_ret
    refine ⟨_, _, _, rfl, ⟨by simp [svs], fun _ => ⟨_, rfl, by simp, fun j u hu => ?_⟩⟩, (Below.refl _ _).alloc (Nat.le_refl _) _⟩
    rw [at_add, Nat.zero_add, (Blk.new w 9 _).cell j]
    simpa using hu
/-- A part's two cells. -/
def ES (w : World) (k : Bs) (a b : Value) : Prop := a = .bool (k == [42, 42]) ∧ ∃ g, b = .func (.func 19) #[] #[.pointer (some ⟨g, 0, none⟩)] ∧ Blk w g 9 #[.string ⟨k.toArray⟩]
theorem ES.below {w w' : World} {k : Bs} {a b : Value} (h : ES w k a b) (hb : Below w.heap.size w w') : ES w' k a b := by
  obtain ⟨h1, g, h2, h3⟩ := h
  exact ⟨h1, g, h2, h3.below hb h3.lt⟩
def semS (k : Bs) : Bool × (Bs → Bool) := (k == [42, 42], fun s => matchP k s)
def EsL (w : World) (ks : List Bs) (cells : List Value) : Prop := cells.length = ks.length * 2 ∧ ∀ k (h : k < ks.length), ∃ a b, cells[k * 2]? = some a ∧ cells[k * 2 + 1]? = some b ∧ ES w ks[k] a b
theorem EsL.nil (w : World) : EsL w [] [] := ⟨rfl, fun k h => by simp at h⟩
theorem EsL.below {w w' : World} {es : List Bs} {cells : List Value} (h : EsL w es cells) (hb : Below w.heap.size w w') : EsL w' es cells :=
  ⟨h.1, fun k hk => by
    obtain ⟨a, b, h1, h2, h3⟩ := h.2 k hk
    exact ⟨a, b, h1, h2, h3.below hb⟩⟩
theorem EsL.snoc {w : World} {es : List Bs} {cells : List Value} {e : Bs} {a b : Value} (h : EsL w es cells) (he : ES w e a b) : EsL w (es ++ [e]) (cells ++ [a, b]) := by
  refine ⟨by simp [h.1]; omega, fun k hk => ?_⟩
  rcases Nat.lt_or_ge k es.length with hl | hl
  · obtain ⟨x, y, h1, h2, h3⟩ := h.2 k hl
    refine ⟨x, y, ?_, ?_, ?_⟩
    · rw [List.getElem?_append_left (by rw [h.1]; omega)]; exact h1
    · rw [List.getElem?_append_left (by rw [h.1]; omega)]; exact h2
    · rw [List.getElem_append_left hl]; exact h3
  · obtain rfl : k = es.length := by simp at hk; omega
    refine ⟨a, b, ?_, ?_, ?_⟩
    · rw [← h.1, List.getElem?_append_right (Nat.le_refl _), Nat.sub_self]; rfl
    · rw [← h.1, List.getElem?_append_right (by omega)]; simp
    · rw [List.getElem_append_right (Nat.le_refl _)]; simpa using he
theorem EsL.keepRow {w w' : World} {es : List Bs} {cells : List Value} {B n size : Nat} {v : Value} {xs : List Value} (h : EsL w es cells) (ho : w.ownsRow B 45 size v n xs) (hg : w.grownBy w' v.ownBlock) : EsL w' es cells :=
  ⟨h.1, fun k hk => by
    obtain ⟨a, b, h1, h2, h3, g, h4, h5⟩ := h.2 k hk
    exact ⟨a, b, h1, h2, h3, g, h4, h5.grown hg (Ne.symm (own_blk_ne ho h5 (by decide)))⟩⟩
theorem es_at {w : World} {es : List Bs} {cells : List Value} {g o : Nat} (hE : EsL w es cells) (hc : ∀ j u, cells[j]? = some u → w.cell? ⟨g, o + j, none⟩ = some u) (k : Nat) (h : k < es.length) :
    ∃ a b, w.cell? ⟨g, o + k * 2, none⟩ = some a ∧ w.cell? ⟨g, o + k * 2 + 1, none⟩ = some b ∧ ES w es[k] a b := by
  obtain ⟨a, b, h1, h2, h3⟩ := hE.2 k h
  exact ⟨a, b, hc _ _ h1, hc _ _ h2, h3⟩
theorem fit_str (s k : Bs) (hs : s.length ≤ 1024) (hk : k.length ≤ 1024) (g : Nat) (w : World) (h : Blk w g 9 #[.string ⟨k.toArray⟩]) : Calls Tryd.prog 19 #[.string ⟨s.toArray⟩, .pointer (some ⟨g, 0, none⟩)] w fun e w' => e = .returned (.bool (matchP k s)) ∧ Below w.heap.size w w' := by
  have hc := h.cell 0
  have HM := hide (match_any k s hk hs w)
  generalize matchP k s = b at *
  go_enter Tryd.func19, Tryd.ntmps19
  go_wp2_with fail
  refine HM.out.mono ?_
  rintro e w1 ⟨rfl, hb⟩
  go_wp2_with fail
  go_ret
  exact ⟨rfl, hb⟩
end Go.Proofs.YteclcjpbebimeaaDoor
