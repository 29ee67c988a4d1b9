/- The law ParamCuts. -/
import Derived.Test.YtpioelpmdaeieaaGreatDoorParH
namespace Go.Proofs.YtpioelpmdaeieaaGreatDoor
open Go.RowKit
set_option linter.unusedVariables false
theorem drop_len (s : LB) (x : Nat) : s.drop (s.length - (s.drop x).length) = s.drop x := by
  rw [List.length_drop]
  rcases Nat.le_total x s.length with h | h
  · congr 1; omega
  · rw [List.drop_eq_nil_of_le h, List.drop_eq_nil_of_le (by omega)]
theorem take_len (s : LB) (x : Nat) : s.take (s.take x).length = s.take x := by
  rw [List.length_take]
  rcases Nat.le_total x s.length with h | h
  · congr 1; omega
  · rw [List.take_of_length_le h, List.take_of_length_le (by omega)]
set_option maxRecDepth 100000 in
set_option maxHeartbeats 8000000 in
theorem cuts_any (s p : LB) (w : World) : Calls Tryz.prog 6 #[.string ⟨s.toArray⟩, .string ⟨p.toArray⟩] w fun e w' => e = .returned (.bool true) ∧ Below w.heap.size w w' := by
  have XH := hide (fun W => heads_any W)
  by_cases h1 : 300 < s.length
  · have k1 : (300 : Int) < (s.length : Int) := by omega
    go_enter Tryz.func6, Tryz.ntmps6
    go_wp2_with fail
    refine (XH.out _).mono ?_
    rintro e w1 ⟨rfl, hb⟩
    have HB := hide hb
    clear hb
    go_wp2_with fail
    go_ret
    exact ⟨rfl, HB.out⟩
  have k1 : ¬ (300 : Int) < (s.length : Int) := by omega
  by_cases h2 : 100 < p.length
  · have k2 : (100 : Int) < (p.length : Int) := by omega
    go_enter Tryz.func6, Tryz.ntmps6
    go_wp2_with fail
    refine (XH.out _).mono ?_
    rintro e w1 ⟨rfl, hb⟩
    have HB := hide hb
    clear hb
    go_wp2_with fail
    go_ret
    exact ⟨rfl, HB.out⟩
  have k2 : ¬ (100 : Int) < (p.length : Int) := by omega
  have XA := hide (fun W => cut_a s p (by omega) W)
  have XB := hide (fun W => cut_b s p (by omega) W)
  have XC := hide (fun W => cut_c s p (by omega) W)
  have XD := hide (fun W => cut_d s p (by omega) W)
  have hpl := short_long (preF s p) s.length
  have hsl := short_long (sufF s p) s.length
  have a0 : (s.drop (shortN (preF s p) s.length)).length ≤ s.length := by rw [List.length_drop]; omega
  have b0 : (s.drop (longN (preF s p) s.length)).length ≤ (s.drop (shortN (preF s p) s.length)).length := by rw [List.length_drop, List.length_drop]; omega
  have c0 : (s.take (s.length - shortN (sufF s p) s.length)).length ≤ s.length := by rw [List.length_take]; omega
  have d0 : (s.take (s.length - longN (sufF s p) s.length)).length ≤ (s.take (s.length - shortN (sufF s p) s.length)).length := by rw [List.length_take, List.length_take]; omega
  have a1 := drop_len s (shortN (preF s p) s.length)
  have b1 := drop_len s (longN (preF s p) s.length)
  have c1 := take_len s (s.length - shortN (sufF s p) s.length)
  have d1 := take_len s (s.length - longN (sufF s p) s.length)
  generalize s.drop (shortN (preF s p) s.length) = a at *
  generalize s.drop (longN (preF s p) s.length) = b at *
  generalize s.take (s.length - shortN (sufF s p) s.length) = c at *
  generalize s.take (s.length - longN (sufF s p) s.length) = d at *
  have sa : ∀ W, (Instr.slice 9 (.string ⟨s.toArray⟩) (some (.int .i64 ((s.length : Int) - (a.length : Int)))) none none).run Tryz.prog W = .ok (.string ⟨a.toArray⟩) W := fun W => by
    have := sl_from s (s.length - a.length) (by omega) W
    rwa [a1, show ((s.length - a.length : Nat) : Int) = (s.length : Int) - (a.length : Int) by omega] at this
  have sb : ∀ W, (Instr.slice 9 (.string ⟨s.toArray⟩) (some (.int .i64 ((s.length : Int) - (b.length : Int)))) none none).run Tryz.prog W = .ok (.string ⟨b.toArray⟩) W := fun W => by
    have := sl_from s (s.length - b.length) (by omega) W
    rwa [b1, show ((s.length - b.length : Nat) : Int) = (s.length : Int) - (b.length : Int) by omega] at this
  have sc : ∀ W, (Instr.slice 9 (.string ⟨s.toArray⟩) none (some (.int .i64 (c.length : Int))) none).run Tryz.prog W = .ok (.string ⟨c.toArray⟩) W := fun W => by
    have := sl_to s c.length (c.length : Int) rfl (by omega) W
    rwa [c1] at this
  have sd : ∀ W, (Instr.slice 9 (.string ⟨s.toArray⟩) none (some (.int .i64 (d.length : Int))) none).run Tryz.prog W = .ok (.string ⟨d.toArray⟩) W := fun W => by
    have := sl_to s d.length (d.length : Int) rfl (by omega) W
    rwa [d1] at this
  have g1 : ¬ (s.length : Int) < (a.length : Int) := by omega
  have g2 : ¬ (a.length : Int) < (b.length : Int) := by omega
  have g3 : ¬ (s.length : Int) < (c.length : Int) := by omega
  have g4 : ¬ (c.length : Int) < (d.length : Int) := by omega
  have kw1 : IntKind.i64.wrap ((s.length : Int) - (a.length : Int)) = (s.length : Int) - (a.length : Int) := by simp [IntKind.wrap, IntKind.bits, IntKind.signed]; omega
  have kw2 : IntKind.i64.wrap ((s.length : Int) - (b.length : Int)) = (s.length : Int) - (b.length : Int) := by simp [IntKind.wrap, IntKind.bits, IntKind.signed]; omega
  clear hpl hsl a1 b1 c1 d1
  go_enter Tryz.func6, Tryz.ntmps6
  go_wp2_with fail
  refine (XA.out _).mono ?_
  rintro e w1 ⟨rfl, hb⟩
  have K := hide hb
  clear hb
  go_wp2_with fail
  refine (XB.out _).mono ?_
  rintro e w2 ⟨rfl, hb⟩
  replace K := hide (below_more K.out (Nat.le_refl _) hb)
  clear hb
  go_wp2_with fail
  refine (XC.out _).mono ?_
  rintro e w3 ⟨rfl, hb⟩
  replace K := hide (below_more K.out (Nat.le_refl _) hb)
  clear hb
  go_wp2_with fail
  refine (XD.out _).mono ?_
  rintro e w4 ⟨rfl, hb⟩
  replace K := hide (below_more K.out (Nat.le_refl _) hb)
  clear hb
  go_wp2_with fail
  refine (XH.out _).mono ?_
  rintro e w5 ⟨rfl, hb⟩
  replace K := hide (below_more K.out (Nat.le_refl _) hb)
  clear hb
  go_wp2_with fail
  go_ret
  exact ⟨rfl, K.out⟩
theorem cuts_b (a0 a1 : ByteArray) (W : World) : Calls Tryz.prog 6 #[.string a0, .string a1] W fun e w' => e = .returned (.bool true) ∧ Below W.heap.size W w' := by
  obtain ⟨s, rfl⟩ := bs_of a0
  obtain ⟨p, rfl⟩ := bs_of a1
  exact cuts_any s p W
end Go.Proofs.YtpioelpmdaeieaaGreatDoor
