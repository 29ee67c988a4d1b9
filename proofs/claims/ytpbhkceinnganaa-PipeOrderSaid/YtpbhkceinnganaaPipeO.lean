/- The contract of pipe.Open. -/
import Derived.Test.YtpbhkceinnganaaPipeA
namespace Go.Proofs.Ytpbhkceinnganaa
open Go.RowKit
set_option linter.unusedVariables false

def opB (n : Nat) (r u : Int) (wr : Bool) (k : Int) : Bool := okP n r u && decide (-1000 ≤ k ∧ k ≤ 1000 ∧ 0 ≤ (if wr then u else r) + k ∧ (if wr then u else r) + k ≤ 1000)
def opR (n : Nat) (r u : Int) (wr : Bool) (k : Int) : Int := if opB n r u wr k = true ∧ wr = false then r + k else r
def opU (n : Nat) (r u : Int) (wr : Bool) (k : Int) : Int := if opB n r u wr k = true ∧ wr = true then u + k else u
def opE (n : Nat) (r u : Int) (wr : Bool) (k : Int) : Int := if opB n r u wr k = true then 0 else 2
def OpenEnd (w : World) (d : List UInt8) (r u : Int) (wr : Bool) (k : Int) (e : Ending) (w' : World) : Prop :=
  ∃ A' c', e = .returned (.tuple #[pv A' d.length c' (opR d.length r u wr k) (opU d.length r u wr k), .int .i64 (opE d.length r u wr k)]) ∧ Rc w.heap.size w' A' d.length c' d ∧ Below w.heap.size w w'

theorem openEnd_no {w w' : World} {d : List UInt8} {r u : Int} {wr : Bool} {k : Int} {A' : Option Addr} {c' : Nat} (h : opB d.length r u wr k = false) (hr : Rc w.heap.size w' A' d.length c' d) (hb : Below w.heap.size w w') :
    OpenEnd w d r u wr k (.returned (.tuple #[pv A' d.length c' r u, .int .i64 2])) w' := by
  refine ⟨A', c', ?_, hr, hb⟩
  unfold opR opU opE
  rw [h]; simp
theorem openEnd_r {w w' : World} {d : List UInt8} {r u : Int} {k : Int} {A' : Option Addr} {c' : Nat} (h : opB d.length r u false k = true) (hr : Rc w.heap.size w' A' d.length c' d) (hb : Below w.heap.size w w') :
    OpenEnd w d r u false k (.returned (.tuple #[pv A' d.length c' (r + k) u, .int .i64 0])) w' := by
  refine ⟨A', c', ?_, hr, hb⟩
  unfold opR opU opE
  rw [h]; simp
theorem openEnd_w {w w' : World} {d : List UInt8} {r u : Int} {k : Int} {A' : Option Addr} {c' : Nat} (h : opB d.length r u true k = true) (hr : Rc w.heap.size w' A' d.length c' d) (hb : Below w.heap.size w w') :
    OpenEnd w d r u true k (.returned (.tuple #[pv A' d.length c' r (u + k), .int .i64 0])) w' := by
  refine ⟨A', c', ?_, hr, hb⟩
  unfold opR opU opE
  rw [h]; simp

set_option maxHeartbeats 2000000 in
theorem open_any (A : Option Addr) (c : Nat) (r u : Int) (d : List UInt8) (wr : Bool) (k : Int) (w : World) (hr : Rd w A d.length d) (hn : d.length ≤ 1000) :
    Calls Try.prog 11 #[pv A d.length c r u, .bool wr, .int .i64 k] w (OpenEnd w d r u wr k) := by
  go_enter Try.func11, Try.ntmps11
  go_wp2_with fail
  refine (cpipe_any A _ c r u d _ (((hr.alloc (Nat.le_refl _) _).alloc (by simp) _).more (by simp; omega)) (by omega)).mono ?_
  rintro e w1 ⟨A', c', rfl, hown, hb1⟩
  have hbw := hide ((((Below.refl w.heap.size w).alloc (Nat.le_refl _) (.cells #[Value.slice A d.length c, .int .i64 r, .int .i64 u] 24)).alloc (by simp) (.cells #[Value.slice none 0 0, .int .i64 0, .int .i64 0] 24)).trans (hb1.mono (by simp; omega)))
  obtain ⟨a0, a1, a2, f0, f1, f2⟩ := (((Blk.new w 24 #[Value.slice A d.length c, .int .i64 r, .int .i64 u]).alloc (.cells #[Value.slice none 0 0, .int .i64 0, .int .i64 0] 24)).below hb1 (by simp; omega)).three
  have hB1 := (Blk.new (w.alloc (.cells #[Value.slice A d.length c, .int .i64 r, .int .i64 u] 24)) 24 #[Value.slice none 0 0, .int .i64 0, .int .i64 0]).below hb1 (by simp)
  obtain ⟨b0, b1, b2, g0, g1, g2⟩ := hB1.three
  simp only [World.size_alloc] at b0 b1 b2 g0 g1 g2 hB1 hown
  have hz := hb1.size
  simp at hz
  have hz2 : w.heap.size + 1 < w1.heap.size := by omega
  have hz3 : w.heap.size < w1.heap.size := by omega
  clear hb1
  have HO : Hid (w1.ownsRow (w.heap.size + 1 + 1) 5 1 (.slice A' d.length c') d.length (bv d)) := hide hown
  clear hown
  cases wr
  all_goals
    go_wp2_with fail
    refine (check_any A _ c r u _ (by unfold maxLen; omega)).mono ?_
    rintro e w2 ⟨rfl, rfl⟩
  · by_cases hB : opB d.length r u false k = false
    · have HB := hide hB
      by_cases hok : okP d.length r u = false
      · rw [hok]
        clear hB
        go_wp2
        refine bodyPost_ret (v := .tuple #[pv A' d.length c' r u, .int .i64 2]) (by simp only [results, Try.results11]; go_simp) rfl (openEnd_no HB.out (rc_of_own ((own_far (own_far (own_far HO.out (by simp) _) (by simp) _) (by simp) _).alloc _ |>.alloc _)) ?_)
        exact ((((hbw.out.setCell (by simp) _).setCell (by simp) _).setCell (by simp) _).alloc (by simp [World.setCell]; omega) _).alloc (by simp [World.setCell]; omega) _
      · rw [Bool.not_eq_false] at hok
        rw [hok]
        have hn' : ¬ (-1000 ≤ k ∧ k ≤ 1000 ∧ 0 ≤ r + k ∧ r + k ≤ 1000) := by
          intro hh
          have hT : opB d.length r u false k = true := by
            unfold opB
            rw [hok]
            simpa using hh
          rw [hT] at hB
          cases hB
        have hbd : 0 ≤ r ∧ r ≤ 1000 ∧ 0 ≤ u ∧ u ≤ 1000 := by
          unfold okP at hok
          have := of_decide_eq_true hok
          omega
        obtain ⟨hbd1, hbd2, hbd3, hbd4⟩ := hbd
        clear hB hok
        by_cases hk1 : -1000 ≤ k ∧ k ≤ 1000
        · obtain ⟨hk1, hk2⟩ := hk1
          go_wp2
          all_goals first
            | (exfalso; omega)
            | (exfalso; rename_i hx; simp only [Bool.not_eq_false', decide_eq_true_eq] at hx; omega)
            | (refine bodyPost_ret (v := .tuple #[pv A' d.length c' r u, .int .i64 2]) (by simp only [results, Try.results11]; go_simp) rfl (openEnd_no HB.out (rc_of_own ((own_far (own_far (own_far HO.out (by simp) _) (by simp) _) (by simp) _).alloc _ |>.alloc _)) ?_)
               exact ((((hbw.out.setCell (by simp) _).setCell (by simp) _).setCell (by simp) _).alloc (by simp [World.setCell]; omega) _).alloc (by simp [World.setCell]; omega) _)
        · go_wp2
          all_goals first
            | (exfalso; omega)
            | (exfalso; rename_i hx; simp only [Bool.not_eq_false', decide_eq_true_eq] at hx; omega)
            | (refine bodyPost_ret (v := .tuple #[pv A' d.length c' r u, .int .i64 2]) (by simp only [results, Try.results11]; go_simp) rfl (openEnd_no HB.out (rc_of_own ((own_far (own_far (own_far HO.out (by simp) _) (by simp) _) (by simp) _).alloc _ |>.alloc _)) ?_)
               exact ((((hbw.out.setCell (by simp) _).setCell (by simp) _).setCell (by simp) _).alloc (by simp [World.setCell]; omega) _).alloc (by simp [World.setCell]; omega) _)
    · rw [Bool.not_eq_false] at hB
      have hB' := hB
      unfold opB at hB'
      simp only [Bool.and_eq_true, decide_eq_true_eq, Bool.false_eq_true, if_false] at hB'
      obtain ⟨hok, p1, p2, p3, p4⟩ := hB'
      rw [hok]
      have HB := hide hB
      clear hB hok
      go_wp2
      refine bodyPost_ret (v := .tuple #[pv A' d.length c' (r + k) u, .int .i64 0]) (by simp only [results, Try.results11]; go_simp) rfl (openEnd_r HB.out (rc_of_own ((own_far (own_far (own_far HO.out (by simp) _) (by simp) _) (by simp) _).alloc _ |>.alloc _)) ?_)
      exact ((((hbw.out.setCell (by simp) _).setCell (by simp) _).setCell (by simp) _).alloc (by simp [World.setCell]; omega) _).alloc (by simp [World.setCell]; omega) _
  · by_cases hB : opB d.length r u true k = false
    · have HB := hide hB
      by_cases hok : okP d.length r u = false
      · rw [hok]
        clear hB
        go_wp2
        refine bodyPost_ret (v := .tuple #[pv A' d.length c' r u, .int .i64 2]) (by simp only [results, Try.results11]; go_simp) rfl (openEnd_no HB.out (rc_of_own ((own_far (own_far (own_far HO.out (by simp) _) (by simp) _) (by simp) _).alloc _ |>.alloc _)) ?_)
        exact ((((hbw.out.setCell (by simp) _).setCell (by simp) _).setCell (by simp) _).alloc (by simp [World.setCell]; omega) _).alloc (by simp [World.setCell]; omega) _
      · rw [Bool.not_eq_false] at hok
        rw [hok]
        have hn' : ¬ (-1000 ≤ k ∧ k ≤ 1000 ∧ 0 ≤ u + k ∧ u + k ≤ 1000) := by
          intro hh
          have hT : opB d.length r u true k = true := by
            unfold opB
            rw [hok]
            simpa using hh
          rw [hT] at hB
          cases hB
        have hbd : 0 ≤ r ∧ r ≤ 1000 ∧ 0 ≤ u ∧ u ≤ 1000 := by
          unfold okP at hok
          have := of_decide_eq_true hok
          omega
        obtain ⟨hbd1, hbd2, hbd3, hbd4⟩ := hbd
        clear hB hok
        by_cases hk1 : -1000 ≤ k ∧ k ≤ 1000
        · obtain ⟨hk1, hk2⟩ := hk1
          go_wp2
          all_goals first
            | (exfalso; omega)
            | (exfalso; rename_i hx; simp only [Bool.not_eq_false', decide_eq_true_eq] at hx; omega)
            | (refine bodyPost_ret (v := .tuple #[pv A' d.length c' r u, .int .i64 2]) (by simp only [results, Try.results11]; go_simp) rfl (openEnd_no HB.out (rc_of_own ((own_far (own_far (own_far HO.out (by simp) _) (by simp) _) (by simp) _).alloc _ |>.alloc _)) ?_)
               exact ((((hbw.out.setCell (by simp) _).setCell (by simp) _).setCell (by simp) _).alloc (by simp [World.setCell]; omega) _).alloc (by simp [World.setCell]; omega) _)
        · go_wp2
          all_goals first
            | (exfalso; omega)
            | (exfalso; rename_i hx; simp only [Bool.not_eq_false', decide_eq_true_eq] at hx; omega)
            | (refine bodyPost_ret (v := .tuple #[pv A' d.length c' r u, .int .i64 2]) (by simp only [results, Try.results11]; go_simp) rfl (openEnd_no HB.out (rc_of_own ((own_far (own_far (own_far HO.out (by simp) _) (by simp) _) (by simp) _).alloc _ |>.alloc _)) ?_)
               exact ((((hbw.out.setCell (by simp) _).setCell (by simp) _).setCell (by simp) _).alloc (by simp [World.setCell]; omega) _).alloc (by simp [World.setCell]; omega) _)
    · rw [Bool.not_eq_false] at hB
      have hB' := hB
      unfold opB at hB'
      simp only [Bool.and_eq_true, decide_eq_true_eq, if_true] at hB'
      obtain ⟨hok, p1, p2, p3, p4⟩ := hB'
      rw [hok]
      have HB := hide hB
      clear hB hok
      go_wp2
      refine bodyPost_ret (v := .tuple #[pv A' d.length c' r (u + k), .int .i64 0]) (by simp only [results, Try.results11]; go_simp) rfl (openEnd_w HB.out (rc_of_own ((own_far (own_far (own_far HO.out (by simp) _) (by simp) _) (by simp) _).alloc _ |>.alloc _)) ?_)
      exact ((((hbw.out.setCell (by simp) _).setCell (by simp) _).setCell (by simp) _).alloc (by simp [World.setCell]; omega) _).alloc (by simp [World.setCell]; omega) _
end Go.Proofs.Ytpbhkceinnganaa
