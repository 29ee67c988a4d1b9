/- The reference's Check and Feed. -/
import Derived.Test.YtgmpcgcmcheelaaRefF
namespace Go.Proofs.Ytgmpcgcmcheelaa
open Go.RowKit
set_option linter.unusedVariables false

theorem ok_len : ∀ h : Bs, (lenR h < 0 ∧ okS h false = true) ∨ (lenR h = 0 ∧ okS h false = false) ∨ (0 < lenR h ∧ (h.length : Int) - 2 < lenR h ∧ okS h false = true) ∨ (0 < lenR h ∧ ¬ (h.length : Int) - 2 < lenR h ∧ okS h false = false) := by
  intro h
  have ho : okS h false = ((readD h).1.isEmpty && ((readD h).2.2 != 5)) := rfl
  rw [ho]
  rcases Nat.lt_or_ge h.length 2 with h1 | h1
  · refine Or.inl ⟨by unfold lenR; rw [if_pos h1]; decide, ?_⟩
    by_cases h0 : h = []
    · subst h0; rfl
    · rw [read_one h0 h1]; rfl
  · cases hb : bad h
    · have hb' := bad_no hb
      have hL : lenR h = (numB (h.take 2) : Nat) := by unfold lenR; rw [if_neg (by omega), if_neg (by omega)]
      rw [hL]
      rcases Nat.lt_or_ge h.length (2 + numB (h.take 2)) with h3 | h4
      · refine Or.inr (Or.inr (Or.inl ⟨by omega, by omega, ?_⟩))
        rw [read_short h1 hb h3]; rfl
      · refine Or.inr (Or.inr (Or.inr ⟨by omega, by omega, ?_⟩))
        rw [read_next h1 hb h4]; rfl
    · refine Or.inr (Or.inl ⟨?_, by rw [read_bad h1 hb]; rfl⟩)
      unfold bad at hb
      have hb := of_decide_eq_true hb
      unfold lenR
      rw [if_neg (by omega)]
      rcases hb with h | h
      · have : numB (List.take 2 _) = 0 := Nat.lt_one_iff.1 h
        rw [this]; rfl
      · rw [if_pos h]
set_option maxHeartbeats 1000000 in
theorem rcheck_any (A : Option Addr) (n c : Nat) (dead : Bool) (h : Bs) (w : World) (hr : Rd w A n h) (hn : n ≤ 50000) :
    Calls Try.prog 18 #[stV A n c dead] w fun e w' => e = .returned (.bool (okS h dead)) ∧ Below w.heap.size w w' := by
  have HR := hide hr
  have hl := hide hr.len
  clear hr
  cases dead
  · go_enter Try.func18, Try.ntmps18
    go_wp2_with fail
    refine (len_any A n c h _ ((HR.out.alloc (Nat.le_refl _) _).more (by simp))).mono ?_
    rintro e w1 ⟨rfl, dq, hdq⟩
    have K1 := hide (show Below w.heap.size w w1 by rw [hdq]; exact below_drewN_ ((Below.refl _ _).alloc (Nat.le_refl _) _) _)
    have BP : Hid (Blk w1 w.heap.size 24 #[.slice A n c, .bool false]) := hide (by rw [hdq]; exact (Blk.new w 24 _).drewN _)
    clear hdq
    obtain ⟨x0, x1, y0, y1⟩ := BP.out.two
    have hk := ok_len h
    rw [hl.out] at hk
    generalize lenR h = N at hk ⊢
    rcases hk with ⟨g1, g2⟩ | ⟨g1, g2⟩ | ⟨g1, g2, g3⟩ | ⟨g1, g2, g3⟩
    · have HO := hide g2
      clear g2
      go_wp2
      go_ret
      exact ⟨by rw [HO.out]; rfl, K1.out⟩
    · have HO := hide g2
      subst g1
      clear g2
      go_wp2
      go_ret
      exact ⟨by rw [HO.out]; rfl, K1.out⟩
    · have HO := hide g3
      have g4 : ¬ N < 0 := by omega
      clear g3
      go_wp2
      go_ret
      exact ⟨by rw [HO.out]; rfl, K1.out⟩
    · have HO := hide g3
      have g5 : decide ((n : Int) - 2 < N) = false := decide_eq_false g2
      have g6 : decide (N < 0) = false := decide_eq_false (by omega)
      clear g3
      go_wp2
      go_ret
      exact ⟨by rw [HO.out]; rfl, K1.out⟩
  · by_cases h0 : n = 0
    · subst h0
      have HO : Hid (okS h true = true) := hide (by obtain rfl := List.eq_nil_of_length_eq_zero hl.out; rfl)
      go_enter Try.func18, Try.ntmps18
      go_wp2
      go_ret
      exact ⟨by rw [HO.out]; rfl, (Below.refl _ _).alloc (Nat.le_refl _) _⟩
    · have HO : Hid (okS h true = false) := hide (by cases h with
        | nil => have := hl.out; simp at this; omega
        | cons a t => rfl)
      have hz : ((n : Int) == 0) = false := beq_eq_false_iff_ne.2 (by omega)
      go_enter Try.func18, Try.ntmps18
      go_wp2
      go_ret
      exact ⟨by rw [HO.out]; rfl, (Below.refl _ _).alloc (Nat.le_refl _) _⟩
end Go.Proofs.Ytgmpcgcmcheelaa
