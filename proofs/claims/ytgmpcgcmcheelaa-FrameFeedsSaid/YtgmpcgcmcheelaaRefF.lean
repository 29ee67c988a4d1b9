/- The reference's Put, All, Check. -/
import Derived.Test.YtgmpcgcmcheelaaRefK
namespace Go.Proofs.Ytgmpcgcmcheelaa
open Go.RowKit
set_option linter.unusedVariables false

theorem rfput_no (A : Option Addr) (n c : Nat) (w : World) (h : n < 1 ∨ 4096 < n) :
    Calls Try.prog 11 #[.slice A n c] w fun e w' => e = .returned (.tuple #[.slice none 0 0, .int .i64 2]) ∧ Below w.heap.size w w' := by
  rcases h with h | h
  · have h' : (n : Int) < 1 := by omega
    go_enter Try.func11, Try.ntmps11
    go_wp2
    go_ret2
    exact ⟨rfl, Below.refl _ _⟩
  · have h' : ¬ (n : Int) < 1 := by omega
    have h'' : (4096 : Int) < n := by omega
    go_enter Try.func11, Try.ntmps11
    go_wp2
    go_ret2
    exact ⟨rfl, Below.refl _ _⟩
set_option maxHeartbeats 400000 in
theorem rfput_yes (A : Option Addr) (n c : Nat) (b : Bs) (w : World) (hr : Rd w A n b) (h1 : 1 ≤ n) (h2 : n ≤ 4096) :
    Calls Try.prog 11 #[.slice A n c] w fun e w' => ∃ J j, e = .returned (.tuple #[.slice J (2 + n) j, .int .i64 0]) ∧ w'.ownsRow w.heap.size 5 1 (.slice J (2 + n) j) (2 + n) (bv (be 2 n ++ b)) ∧ Below w.heap.size w w' := by
  obtain ⟨i0, hi, hz0, hz1, hz2⟩ := info_parts infoU8
  have g1 : ¬ (n : Int) < 1 := by omega
  have g2 : ¬ (4096 : Int) < n := by omega
  have HR := hide hr
  clear hr
  go_enter Try.func11, Try.ntmps11
  go_wp2_with fail
  refine (rput_yes n 2 _ (by omega) (by omega) (by omega)).mono ?_
  rintro e w1 ⟨v, rfl, ho, hb⟩
  obtain ⟨A1, c1, rfl⟩ := own_slice ho
  have hr2 := (Reads.below HR.out hb).more hb.size
  have HB := hide hb
  have HO := hide ho
  have hsz := hb.size
  clear hb
  go_wp2_with (at_builtin; (refine wpList_append_any _ rfl (.tmp 15) (.tmp 16) 22 rfl w.heap.size 5 i0 _ 1 1 Try.underlying22 hi hz0 hz1 hz2 rfl (by omega) (.slice A1 2 c1) 2 (bv (be 2 n)) rfl ho w1.heap.size A n c (bv b) rfl hr2 (bv_one _) ?c1 ?c2 ?c3 ?_))
  case c1 => unfold maxLen; omega
  case c2 => omega
  case c3 => omega
  intro v1 w2 hown1 hg1 hat1
  obtain ⟨J, j, rfl⟩ := own_slice hown1
  rw [← bv_append] at hown1
  have HB2 := hide (Below.grown (h := HB.out) (hg := hg1) (by omega) (fun g hg => (World.ownsRow.lt HO.out g hg).1))
  have HO2 := hide hown1
  clear hown1 hg1 hat1 hr2 ho
  go_wp2
  go_ret2
  exact ⟨J, j, rfl, HO2.out, HB2.out⟩

/-- What All answers. -/
def eAll (b : Bs) : Int := (readD b).2.2
theorem read_e : ∀ (k : Nat) (x : Bs), x.length ≤ k → ((readD x).2.2 = 0 ∧ (readD x).2.1 = []) ∨ ((readD x).2.2 = 3 ∧ (readD x).2.1 ≠ []) ∨ ((readD x).2.2 = 5 ∧ (readD x).2.1 = []) := by
  intro k
  induction k with
  | zero =>
    intro x h
    obtain rfl := List.eq_nil_of_length_eq_zero (Nat.le_zero.1 h)
    exact Or.inl ⟨rfl, rfl⟩
  | succ k ih =>
    intro x h
    by_cases h0 : x = []
    · subst h0; exact Or.inl ⟨rfl, rfl⟩
    · rcases Nat.lt_or_ge x.length 2 with h1 | h2
      · rw [read_one h0 h1]; exact Or.inr (Or.inl ⟨rfl, h0⟩)
      · cases hb : bad x
        · rcases Nat.lt_or_ge x.length (2 + numB (x.take 2)) with h3 | h4
          · rw [read_short h2 hb h3]; exact Or.inr (Or.inl ⟨rfl, h0⟩)
          · rw [read_next h2 hb h4]
            exact ih _ (by rw [List.length_drop]; omega)
        · rw [read_bad h2 hb]; exact Or.inr (Or.inr ⟨rfl, rfl⟩)
set_option maxHeartbeats 400000 in
theorem rall_any (A : Option Addr) (n c : Nat) (b : Bs) (w : World) (hr : Rd w A n b) (hc : n ≤ c) (hn : n ≤ 50000) :
    Calls Try.prog 13 #[.slice A n c] w fun e w' => ∃ Bo m cb, e = .returned (.tuple #[.slice Bo m cb, .int .i64 (readD b).2.2]) ∧ RowsP w' Bo m (allB b) ∧ Below w.heap.size w w' := by
  have hcut := hide (fun V (hV : Rd V A n b) => rcut_any A n c b V hV hc (by omega))
  have HR := hide hr
  clear hr
  go_enter Try.func13, Try.ntmps13
  go_wp2_with fail
  refine (hcut.out _ HR.out).mono ?_
  rintro e w1 ⟨Bo, m, cb, A1, n1, c1, rfl, q1, p1, k1⟩
  have Q := hide q1.rowsP
  have K := hide k1
  have hl := hide p1.len
  clear q1 p1 k1
  rcases read_e _ b (Nat.le_refl _) with ⟨h1, h2⟩ | ⟨h1, h2⟩ | ⟨h1, h2⟩
  · have hA : Hid (allB b = (readD b).1) := hide (by unfold allB; rw [if_pos h1])
    have hl2 : n1 = 0 := by rw [← hl.out, h2]; rfl
    subst hl2
    have H1 := hide h1
    rw [h1]
    clear h1 h2
    go_wp2
    go_ret2
    exact ⟨Bo, m, cb, by rw [H1.out]; rfl, by rw [hA.out]; exact Q.out, K.out⟩
  · have hA : Hid (allB b = []) := hide (by unfold allB; rw [if_neg (by rw [h1]; decide)])
    have hl2 : 0 < n1 := by rw [← hl.out]; exact List.length_pos_iff.2 h2
    have hl3 : (0 : Int) < (n1 : Int) := by omega
    have H1 := hide h1
    rw [h1]
    clear h1 h2
    go_wp2
    go_ret2
    exact ⟨none, 0, 0, by rw [H1.out]; rfl, by rw [hA.out]; exact RowsP.nil _, K.out⟩
  · have hA : Hid (allB b = []) := hide (by unfold allB; rw [if_neg (by rw [h1]; decide)])
    have H1 := hide h1
    rw [h1]
    clear h1 h2
    go_wp2
    go_ret2
    exact ⟨none, 0, 0, by rw [H1.out]; rfl, by rw [hA.out]; exact RowsP.nil _, K.out⟩
end Go.Proofs.Ytgmpcgcmcheelaa
