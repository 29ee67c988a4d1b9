/- The reference's Same, Ready and Open of pipes. -/
import Derived.Test.YtpbhkceinnganaaPipeA
import Derived.Test.YtpbhkceinnganaaPipeO
import Derived.Test.YtpbhkceinnganaaPipeR
namespace Go.Proofs.Ytpbhkceinnganaa
open Go.RowKit
set_option linter.unusedVariables false

set_option maxHeartbeats 400000 in
theorem rready_any (A : Option Addr) (n c : Nat) (r u : Int) (wr : Bool) (w : World) (hn : n ≤ maxLen) :
    Calls Try.prog 18 #[pv A n c r u, .bool wr] w fun e w' => e = .returned (.bool (rdyS n r u wr)) ∧ Below w.heap.size w w' := by
  have hn' := hn
  unfold maxLen at hn'
  go_enter Try.func18, Try.ntmps18
  go_wp2_with fail
  refine (rcheck_any A n c r u _ hn).mono ?_
  rintro e w1 ⟨rfl, rfl⟩
  by_cases hok : okP n r u = false
  · rw [hok]
    go_wp2
    go_ret
    exact ⟨ret_bool (by unfold rdyS; rw [hok]; rfl), ((Below.refl _ _).alloc (Nat.le_refl _) _).alloc (by simp) _⟩
  · rw [Bool.not_eq_false] at hok
    rw [hok]
    cases wr
    all_goals
      go_wp2
      all_goals
        go_ret
        refine ⟨ret_bool ?_, ((Below.refl _ _).alloc (Nat.le_refl _) _).alloc (by simp) _⟩
        unfold rdyS
        rw [hok, Bool.eq_iff_iff]
        simp
        try (simp_all; done)
        try omega

set_option maxHeartbeats 400000 in
theorem rsame_any (A B : Option Addr) (n m c d : Nat) (r u s v : Int) (a b : List UInt8) (w : World) (ha : Rd w A n a) (hb : Rd w B m b) :
    Calls Try.prog 13 #[pv A n c r u, pv B m d s v] w fun e w' => e = .returned (.bool (r == s && u == v && a == b)) ∧ Below w.heap.size w w' := by
  have r1 := run_string_of (P := Try.prog) ((w.alloc (.cells #[.slice A n c, .int .i64 r, .int .i64 u] 24)).alloc (.cells #[.slice B m d, .int .i64 s, .int .i64 v] 24)) _ 22 9 5 A n c a Try.underlying22 Try.underlying5 Try.underlying9 ((ha.alloc (Nat.le_refl _) _).alloc (by simp) _)
  have r2 := run_string_of (P := Try.prog) ((w.alloc (.cells #[.slice A n c, .int .i64 r, .int .i64 u] 24)).alloc (.cells #[.slice B m d, .int .i64 s, .int .i64 v] 24)) _ 22 9 5 B m d b Try.underlying22 Try.underlying5 Try.underlying9 ((hb.alloc (Nat.le_refl _) _).alloc (by simp) _)
  go_enter Try.func13, Try.ntmps13
  cases hrs : (r == s) <;> cases huv : (u == v)
  all_goals
    go_wp2
    go_ret
    exact ⟨rfl, ((Below.refl _ _).alloc (Nat.le_refl _) _).alloc (by simp) _⟩


set_option maxHeartbeats 2000000 in
theorem ropen_any (A : Option Addr) (c : Nat) (r u : Int) (d : List UInt8) (wr : Bool) (k : Int) (w : World) (hr : Rd w A d.length d) (hn : d.length ≤ 1000) :
    Calls Try.prog 12 #[pv A d.length c r u, .bool wr, .int .i64 k] w fun e w' => ∃ A' c', e = .returned (.tuple #[pv A' d.length c' (opR d.length r u wr k) (opU d.length r u wr k), .int .i64 (opE d.length r u wr k)]) ∧ Rd w' A' d.length d ∧ Below w.heap.size w w' := by
  go_enter Try.func12, Try.ntmps12
  go_wp2_with fail
  refine (rcheck_any A _ c r u _ (by unfold maxLen; omega)).mono ?_
  rintro e w2 ⟨rfl, rfl⟩
  have OUT : ∀ (R U E : Int) (W : World), opR d.length r u wr k = R ∧ opU d.length r u wr k = U ∧ opE d.length r u wr k = E → Below w.heap.size w W → ∃ A' c', Ending.returned (.tuple #[pv A d.length c R U, .int .i64 E]) = .returned (.tuple #[pv A' d.length c' (opR d.length r u wr k) (opU d.length r u wr k), .int .i64 (opE d.length r u wr k)]) ∧ Rd W A' d.length d ∧ Below w.heap.size w W := fun R U E W h hb => ⟨A, c, by rw [h.1, h.2.1, h.2.2], (Reads.below hr hb).more hb.size, hb⟩
  cases hok : okP d.length r u
  · have HE : Hid (opR d.length r u wr k = r ∧ opU d.length r u wr k = u ∧ opE d.length r u wr k = 2) := hide (by unfold opR opU opE opB; rw [hok]; simp)
    go_wp2
    refine bodyPost_ret (v := .tuple #[pv A d.length c r u, .int .i64 2]) (by simp only [results, Try.results12]; go_simp) rfl (OUT r u 2 _ HE.out ?_)
    ((repeat (refine Below.alloc ?_ (by first | exact Nat.le_refl _ | (simp; done) | (simp; omega)) _)); exact Below.refl _ _)
  · have hbd : 0 ≤ r ∧ r ≤ 1000 ∧ 0 ≤ u ∧ u ≤ 1000 := by
      unfold okP at hok
      have := of_decide_eq_true hok
      omega
    obtain ⟨q1, q2, q3, q4⟩ := hbd
    by_cases hk1 : k < -1000
    · have HE : Hid (opR d.length r u wr k = r ∧ opU d.length r u wr k = u ∧ opE d.length r u wr k = 2) := hide (by unfold opR opU opE opB; rw [hok]; simp; omega)
      go_wp2
      refine bodyPost_ret (v := .tuple #[pv A d.length c r u, .int .i64 2]) (by simp only [results, Try.results12]; go_simp) rfl (OUT r u 2 _ HE.out ?_)
      ((repeat (refine Below.alloc ?_ (by first | exact Nat.le_refl _ | (simp; done) | (simp; omega)) _)); exact Below.refl _ _)
    · by_cases hk2 : 1000 < k
      · have HE : Hid (opR d.length r u wr k = r ∧ opU d.length r u wr k = u ∧ opE d.length r u wr k = 2) := hide (by unfold opR opU opE opB; rw [hok]; simp; omega)
        go_wp2
        refine bodyPost_ret (v := .tuple #[pv A d.length c r u, .int .i64 2]) (by simp only [results, Try.results12]; go_simp) rfl (OUT r u 2 _ HE.out ?_)
        ((repeat (refine Below.alloc ?_ (by first | exact Nat.le_refl _ | (simp; done) | (simp; omega)) _)); exact Below.refl _ _)
      · have hk3 : -1000 ≤ k := by omega
        have hk4 : k ≤ 1000 := by omega
        cases wr
        · go_wp2_with fail
          refine (rcheck_any A _ c (r + k) u _ (by unfold maxLen; omega)).mono ?_
          rintro e w2 ⟨rfl, rfl⟩
          cases hB : opB d.length r u false k
          · have hok2 : okP d.length (r + k) u = false := by
              unfold opB at hB; rw [hok] at hB
              unfold okP at hok ⊢
              have := of_decide_eq_true hok
              simp at hB
              exact decide_eq_false (by omega)
            have HE : Hid (opR d.length r u false k = r ∧ opU d.length r u false k = u ∧ opE d.length r u false k = 2) := hide (by unfold opR opU opE; rw [hB]; simp)
            rw [hok2]
            go_wp2
            refine bodyPost_ret (v := .tuple #[pv A d.length c r u, .int .i64 2]) (by simp only [results, Try.results12]; go_simp) rfl (OUT r u 2 _ HE.out ?_)
            ((repeat (refine Below.alloc ?_ (by first | exact Nat.le_refl _ | (simp; done) | (simp; omega)) _)); exact Below.refl _ _)
          · have hok2 : okP d.length (r + k) u = true := by
              unfold opB at hB; rw [hok] at hB
              unfold okP at hok ⊢
              have := of_decide_eq_true hok
              simp at hB
              exact decide_eq_true (by omega)
            have HE : Hid (opR d.length r u false k = r + k ∧ opU d.length r u false k = u ∧ opE d.length r u false k = 0) := hide (by unfold opR opU opE; rw [hB]; simp)
            rw [hok2]
            go_wp2
            refine bodyPost_ret (v := .tuple #[pv A d.length c (r + k) u, .int .i64 0]) (by simp only [results, Try.results12]; go_simp) rfl (OUT (r + k) u 0 _ HE.out ?_)
            ((repeat (refine Below.alloc ?_ (by first | exact Nat.le_refl _ | (simp; done) | (simp; omega)) _)); exact Below.refl _ _)
        · go_wp2_with fail
          refine (rcheck_any A _ c r (u + k) _ (by unfold maxLen; omega)).mono ?_
          rintro e w2 ⟨rfl, rfl⟩
          cases hB : opB d.length r u true k
          · have hok2 : okP d.length r (u + k) = false := by
              unfold opB at hB; rw [hok] at hB
              unfold okP at hok ⊢
              have := of_decide_eq_true hok
              simp at hB
              exact decide_eq_false (by omega)
            have HE : Hid (opR d.length r u true k = r ∧ opU d.length r u true k = u ∧ opE d.length r u true k = 2) := hide (by unfold opR opU opE; rw [hB]; simp)
            rw [hok2]
            go_wp2
            refine bodyPost_ret (v := .tuple #[pv A d.length c r u, .int .i64 2]) (by simp only [results, Try.results12]; go_simp) rfl (OUT r u 2 _ HE.out ?_)
            ((repeat (refine Below.alloc ?_ (by first | exact Nat.le_refl _ | (simp; done) | (simp; omega)) _)); exact Below.refl _ _)
          · have hok2 : okP d.length r (u + k) = true := by
              unfold opB at hB; rw [hok] at hB
              unfold okP at hok ⊢
              have := of_decide_eq_true hok
              simp at hB
              exact decide_eq_true (by omega)
            have HE : Hid (opR d.length r u true k = r ∧ opU d.length r u true k = u + k ∧ opE d.length r u true k = 0) := hide (by unfold opR opU opE; rw [hB]; simp)
            rw [hok2]
            go_wp2
            refine bodyPost_ret (v := .tuple #[pv A d.length c r (u + k), .int .i64 0]) (by simp only [results, Try.results12]; go_simp) rfl (OUT r (u + k) 0 _ HE.out ?_)
            ((repeat (refine Below.alloc ?_ (by first | exact Nat.le_refl _ | (simp; done) | (simp; omega)) _)); exact Below.refl _ _)
end Go.Proofs.Ytpbhkceinnganaa
