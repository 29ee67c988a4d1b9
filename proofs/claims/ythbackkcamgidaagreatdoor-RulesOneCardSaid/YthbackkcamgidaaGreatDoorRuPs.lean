/- Parse. -/
import Derived.Test.YthbackkcamgidaaGreatDoorRuPr
namespace Go.Proofs.YthbackkcamgidaaGreatDoor
open Go Go.RowKit
set_option linter.unusedVariables false
theorem splitC_short (c : UInt8) : ∀ s : LB, ∀ l ∈ splitC c s, l.length ≤ s.length := by
  intro s
  induction s with
  | nil => intro l h; rw [splitC] at h; simp at h; subst h; simp
  | cons x r ih =>
    intro l h
    rw [splitC] at h
    by_cases hx : x = c
    · rw [if_pos hx] at h
      rcases List.mem_cons.1 h with rfl | h
      · simp
      · have := ih l h; simp; omega
    · rw [if_neg hx] at h
      cases hs : splitC c r with
      | nil => rw [hs] at h; simp at h; rcases h with rfl; simp
      | cons a t =>
        rw [hs] at h
        rw [hs] at ih
        rcases List.mem_cons.1 h with rfl | h
        · have := ih a List.mem_cons_self; simp; omega
        · have := ih l (List.mem_cons_of_mem _ h); simp; omega
theorem lines_short {s : LB} (h : s.length ≤ 90000) : Lines s := fun l hl => Nat.le_trans (splitC_short 10 s l hl) h
theorem PaEnd.of {w w' : World} {P : PL} {k : Nat} {s : RS} (hb : Below w.heap.size w w') (h : PolO w.heap.size s P w') {e : Ending} (he : e = .returned (.tuple #[polV s P, .int .i64 (k : Int)])) : PaEnd w (P, k) e w' := ⟨hb, s, he, h⟩
set_option maxRecDepth 100000 in
set_option maxHeartbeats 4000000 in
theorem Parse_any (s : LB) (hs : s.length ≤ 4000000000) (w : World) (hS : StdR w) : Calls Tryz.prog 9 #[.string ⟨s.toArray⟩] w (PaEnd w (parseU s)) := by
  obtain ⟨z, hz⟩ : ∃ z, w.heap.size = z := ⟨_, rfl⟩
  have HS := hide hS
  clear hS
  go_enter Tryz.func9, Tryz.ntmps9
  by_cases hl : 8192 < s.length
  · have g1 : (8192 : Int) < (s.length : Int) := by omega
    have HP : Hid (parseU s = (pz, 1)) := hide (by unfold parseU; rw [if_pos hl])
    have hbx := Blk.new w 26 #[.string ⟨#[]⟩, .slice none 0 0, .slice none 0 0]
    have hbel := (Below.refl z w).alloc (by omega) (.cells #[.string ⟨#[]⟩, .slice none 0 0, .slice none 0 0] 26)
    rw [hz] at hbx
    have HX := hide hbx
    have HB := hide hbel
    have d0 := hbx.cell 0
    have d1 := hbx.cell 1
    have d2 := hbx.cell 2
    have f0 := hbx.frozen 0
    have f1 := hbx.frozen 1
    have f2 := hbx.frozen 2
    clear hbx hbel
    refine wp_seq ?_
    go_wp2_with fail
    generalize w.alloc (.cells #[.string ⟨#[]⟩, .slice none 0 0, .slice none 0 0] 26) = W0 at *
    go_wp2_with fail
    have c0 := HX.out.cell 0
    have c1 := HX.out.cell 1
    have c2 := HX.out.cell 2
    refine ⟨rfl, .tuple #[.agg #[.string ⟨#[]⟩, .slice none 0 0, .slice none 0 0], .int .i64 1], ?_, ?_⟩
    · simp [results, Tryz.results9, go_sem, c0, c1, c2]
    rw [HP.out]
    refine PaEnd.of (s := ⟨none, 0, 0, [], none, 0, 0⟩) ?_ (PolO.zero _ _) rfl
    rw [hz]
    exact HB.out
  · have g1 : ¬ (8192 : Int) < (s.length : Int) := by omega
    have HP : Hid (parseU s = parse0 s) := hide (by unfold parseU; rw [if_neg hl])
    have XP := hide (fun W h => prs_any s hs (lines_short (by omega)) W h)
    have hbx := Blk.new w 26 #[.string ⟨#[]⟩, .slice none 0 0, .slice none 0 0]
    have hbel := (Below.refl z w).alloc (by omega) (.cells #[.string ⟨#[]⟩, .slice none 0 0, .slice none 0 0] 26)
    have hsz : (w.alloc (.cells #[.string ⟨#[]⟩, .slice none 0 0, .slice none 0 0] 26)).heap.size = z + 1 := by simp [hz]
    rw [hz] at hbx
    have HX := hide hbx
    have HB := hide hbel
    have HS1 := hide (HS.out.below (by rw [hz]; exact hbel))
    clear hbx hbel
    refine wp_seq ?_
    go_wp2_with fail
    generalize w.alloc (.cells #[.string ⟨#[]⟩, .slice none 0 0, .slice none 0 0] 26) = W0 at *
    go_wp2_with fail
    refine (XP.out _ HS1.out).mono ?_
    rintro e w1 ⟨hb, s1, rfl, hpo⟩
    rw [hsz] at hpo hb
    have h1 := HX.out.below (hb.mono (Nat.le_refl _)) (by omega)
    have HB1 := hide (HB.out.trans (hb.mono (by omega : z ≤ z + 1)))
    have H1 := hide h1
    have HO := hide hpo
    have d0 := h1.cell 0
    have d1 := h1.cell 1
    have d2 := h1.cell 2
    have f0 := h1.frozen 0
    have f1 := h1.frozen 1
    have f2 := h1.frozen 2
    clear hb hpo h1 XP
    unfold polV
    go_wp2_with fail
    have g1 : Blk (((w1.setCell ⟨z, 0, none⟩ (.string ⟨(parse0 s).1.root.toArray⟩)).setCell ⟨z, 1, none⟩ (.slice s1.RA s1.rn s1.rc)).setCell ⟨z, 2, none⟩ (.slice s1.EA s1.en s1.ec)) z 26 #[.string ⟨(parse0 s).1.root.toArray⟩, .slice s1.RA s1.rn s1.rc, .slice s1.EA s1.en s1.ec] := (((H1.out.set_ 0 _).set_ 1 _).set_ 2 _)
    have c0 := g1.cell 0
    have c1 := g1.cell 1
    have c2 := g1.cell 2
    refine ⟨rfl, .tuple #[.agg #[.string ⟨(parse0 s).1.root.toArray⟩, .slice s1.RA s1.rn s1.rc, .slice s1.EA s1.en s1.ec], .int .i64 ((parse0 s).2 : Int)], ?_, ?_⟩
    · simp [results, Tryz.results9, go_sem, c0, c1, c2]
    rw [HP.out]
    refine PaEnd.of (P := (parse0 s).1) (k := (parse0 s).2) (s := s1) ?_ ?_ rfl
    · rw [hz]
      exact ((HB1.out.setCell (p := ⟨z, 0, none⟩) (Nat.le_refl _) _).setCell (p := ⟨z, 1, none⟩) (Nat.le_refl _) _).setCell (p := ⟨z, 2, none⟩) (Nat.le_refl _) _
    · rw [hz]
      refine (HO.out.keep fun k o hk hb => ?_).more (by omega : z ≤ z + 1)
      exact (Below.heap_setCell _ ⟨z, 2, none⟩ _ k (by show k ≠ z; omega)).trans ((Below.heap_setCell _ ⟨z, 1, none⟩ _ k (by show k ≠ z; omega)).trans ((Below.heap_setCell _ ⟨z, 0, none⟩ _ k (by show k ≠ z; omega)).trans hk))
end Go.Proofs.YthbackkcamgidaaGreatDoor
