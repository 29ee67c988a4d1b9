/- clone.List at bytes, for disks. -/
import Derived.Test.YtlkccboongnneaaGreatDoorSclone
namespace Go.Proofs.YtlkccboongnneaaGreatDoor.Dk
open Go.RowKit
set_option linter.unusedVariables false
set_option maxHeartbeats 400000 in
theorem list_any (A : Option Addr) (n c : Nat) (bs : List UInt8) (w : World) (hr : Rd w A n bs) (hn : n ≤ 1000000) :
    Calls Tryz.prog 31 #[.slice A n c] w fun e w' => ∃ A' c', e = .returned (.slice A' n c') ∧ w'.ownsRow w.heap.size 5 1 (.slice A' n c') n (bv bs) ∧ Below w.heap.size w w' := by
  by_cases h0 : n = 0
  · subst h0
    have hz : ((0 : Int) == 0) = true := rfl
    have hbs : bs = [] := List.eq_nil_of_length_eq_zero hr.len
    subst hbs
    go_enter Tryz.func31, Tryz.ntmps31
    go_wp2
    go_ret
    exact ⟨none, 0, rfl, World.ownsRow_nil _ _ _ _, Below.refl _ _⟩
  · have hz : ((n : Int) == 0) = false := beq_eq_false_iff_ne.2 (by omega)
    obtain ⟨ad, rfl, _, _⟩ := hr.get (k := 0) (by omega)
    go_enter Tryz.func31, Tryz.ntmps31
    go_wp2_with fail
    refine (sclone_any ad n c bs w hr hn).mono ?_
    rintro e w1 ⟨v, rfl, hown, hb⟩
    obtain ⟨A', c', rfl⟩ := own_slice hown
    go_wp2
    go_ret
    exact ⟨A', c', rfl, hown, hb⟩
end Go.Proofs.YtlkccboongnneaaGreatDoor.Dk
