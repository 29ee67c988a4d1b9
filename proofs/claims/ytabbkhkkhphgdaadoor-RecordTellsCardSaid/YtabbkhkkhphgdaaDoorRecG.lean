/- The contract of the document's Same at records. -/
import Derived.Test.YtabbkhkkhphgdaaDoorRecF
import Derived.Test.YtabbkhkkhphgdaaDoorSame
namespace Go.Proofs.YtabbkhkkhphgdaaDoor
open Go.RowKit
set_option linter.unusedVariables false
def sameP (r s : Rec) : Bool := (r.seq == s.seq) && ((r.op == s.op) && ((r.path == s.path) && ((r.path2 == s.path2) && ((r.allow == s.allow) && (r.dig == s.dig)))))
theorem same_iff (r s : Rec) : sameP r s = true ↔ r = s := by
  obtain ⟨q, op, p, g, d, al⟩ := r
  obtain ⟨q2, op2, p2, g2, d2, al2⟩ := s
  simp only [sameP, Bool.and_eq_true, beq_iff_eq, Rec.mk.injEq]
  exact ⟨fun ⟨a, b, c, d, e, f⟩ => ⟨a, b, c, d, f, e⟩, fun ⟨a, b, c, d, f, e⟩ => ⟨a, b, c, d, e, f⟩⟩
set_option maxRecDepth 100000 in
set_option maxHeartbeats 4000000 in
theorem rsame_any (r s : Rec) (A A2 : Option Addr) (n c n2 c2 : Nat) (w : World) (hr : Rd w A n r.dig) (hs : Rd w A2 n2 s.dig) :
    Calls Tryd.prog 13 #[Rec.v r A n c, Rec.v s A2 n2 c2] w fun e w' => e = .returned (.bool (sameP r s)) ∧ Below w.heap.size w w' := by
  obtain ⟨q, op, p, g, d, al⟩ := r
  obtain ⟨q2, op2, p2, g2, d2, al2⟩ := s
  have hb := (Below.refl w.heap.size w).alloc (Nat.le_refl _) (.cells (Rec.cs ⟨q, op, p, g, d, al⟩ A n c) 24)
  have hb2 := hb.alloc (by simp) (.cells (Rec.cs ⟨q2, op2, p2, g2, d2, al2⟩ A2 n2 c2) 24)
  have HB := hide hb2
  have r1 := run_string_of (P := Tryd.prog) _ _ 22 9 5 A n c d Tryd.underlying22 Tryd.underlying5 Tryd.underlying9 (rb hr hb2)
  have r2 := run_string_of (P := Tryd.prog) _ _ 22 9 5 A2 n2 c2 d2 Tryd.underlying22 Tryd.underlying5 Tryd.underlying9 (rb hs hb2)
  clear hb hb2 hr hs
  unfold Rec.v sameP Rec.cs at *
  dsimp only at *
  cases k0 : (q == q2)
  · simp only [Bool.false_and]
    go_enter Tryd.func13, Tryd.ntmps13
    go_wp2_with fail
    go_ret
    exact ⟨rfl, HB.out⟩
  · 
    cases k1 : (op == op2)
    · simp only [Bool.false_and, Bool.true_and]
      go_enter Tryd.func13, Tryd.ntmps13
      go_wp2_with fail
      go_ret
      exact ⟨rfl, HB.out⟩
    · 
      cases k2 : (p == p2)
      · simp only [Bool.false_and, Bool.true_and]
        go_enter Tryd.func13, Tryd.ntmps13
        go_wp2_with fail
        go_ret
        exact ⟨rfl, HB.out⟩
      · 
        cases k3 : (g == g2)
        · simp only [Bool.false_and, Bool.true_and]
          go_enter Tryd.func13, Tryd.ntmps13
          go_wp2_with fail
          go_ret
          exact ⟨rfl, HB.out⟩
        · 
          cases k4 : (al == al2)
          · simp only [Bool.false_and, Bool.true_and]
            go_enter Tryd.func13, Tryd.ntmps13
            go_wp2_with fail
            go_ret
            exact ⟨rfl, HB.out⟩
          · 
            cases k5 : (d == d2)
            · simp only [Bool.true_and]
              go_enter Tryd.func13, Tryd.ntmps13
              go_wp2_with fail
              go_ret
              exact ⟨rfl, HB.out⟩
            · 
              simp only [Bool.true_and]
              go_enter Tryd.func13, Tryd.ntmps13
              go_wp2_with fail
              go_ret
              exact ⟨rfl, HB.out⟩
end Go.Proofs.YtabbkhkkhphgdaaDoor
