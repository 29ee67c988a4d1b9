/- Encode, Check, Line at any record; the laws' few. -/
import Derived.Test.YtabbkhkkhphgdaaDoorRecH
namespace Go.Proofs.YtabbkhkkhphgdaaDoor
open Go.RowKit
set_option linter.unusedVariables false
theorem enc_ok (r : Rec) (A : Option Addr) (n c : Nat) (hd : r.dig.length = n) (w : World) (hS : Std w) (hR : Rd w A n r.dig) (hV : validP r = true) :
    Calls Tryd.prog 8 #[Rec.v r A n c] w fun e w' => ∃ A' n' c', e = .returned (.tuple #[.slice A' n' c', .int .i64 0]) ∧ Rd w' A' n' (encP r) ∧ n' ≤ c' ∧ n' ≤ 1000 ∧ Below w.heap.size w w' := by
  obtain ⟨⟨h1, h2⟩, hg, hp, hp2, hdl⟩ := valid_parts hV
  have hl := gov_le hg
  obtain ⟨q, op, p, g, d, al⟩ := r
  dsimp only at *
  obtain ⟨m, rfl⟩ : ∃ m : Nat, q = m := ⟨q.toNat, by omega⟩
  obtain ⟨x, rfl⟩ : ∃ x : Nat, op = x := ⟨op.toNat, by omega⟩
  exact enc_yes m x p g d al A n c hd w hS hR (by omega) (by omega) hp hp2 (by omega) hV
theorem enc_bad (r : Rec) (A : Option Addr) (n c : Nat) (hd : r.dig.length = n) (w : World) (hS : Std w) (hV : validP r = false) :
    Calls Tryd.prog 8 #[Rec.v r A n c] w fun e w' => e = .returned (.tuple #[.slice none 0 0, .int .i64 2]) ∧ Below w.heap.size w w' := by
  obtain ⟨q, op, p, g, d, al⟩ := r
  exact enc_no q op p g d al A n c hd w hS hV
theorem chk_any (r : Rec) (A : Option Addr) (n c : Nat) (hd : r.dig.length = n) (w : World) (hS : Std w) :
    Calls Tryd.prog 14 #[Rec.v r A n c] w fun e w' => e = .returned (.bool (validP r)) ∧ Below w.heap.size w w' := by
  obtain ⟨q, op, p, g, d, al⟩ := r
  exact check_any q op p g d al A n c hd w hS
theorem line_any (r : Rec) (A : Option Addr) (n c : Nat) (hd : r.dig.length = n) (w : World) (hS : Std w) (hR : Rd w A n r.dig) :
    Calls Tryd.prog 16 #[Rec.v r A n c] w fun e w' => e = .returned (.string ⟨(lineP r).toArray⟩) ∧ Below w.heap.size w w' := by
  cases hV : validP r with
  | false =>
    rw [show lineP r = [] by unfold lineP; rw [hV]; rfl]
    obtain ⟨q, op, p, g, d, al⟩ := r
    exact line_no q op p g d al A n c hd w hS hV
  | true =>
    rw [show lineP r = Lib.join (lineL r) [32] by unfold lineP; rw [hV]; rfl]
    obtain ⟨⟨h1, h2⟩, hg, hp, hp2, hdl⟩ := valid_parts hV
    have hl := gov_le hg
    obtain ⟨q, op, p, g, d, al⟩ := r
    dsimp only at *
    obtain ⟨m, rfl⟩ : ∃ m : Nat, q = m := ⟨q.toNat, by omega⟩
    obtain ⟨x, rfl⟩ : ∃ x : Nat, op = x := ⟨op.toNat, by omega⟩
    exact line_yes m x p g d al A n c hd w hS hR (by omega) (by omega) hp hp2 (by omega) hV
def fewP (r : Rec) : Bool := decide (r.path.length ≤ 1000) && (decide (r.path2.length ≤ 1000) && decide (r.dig.length ≤ 100))
set_option maxHeartbeats 2000000 in
theorem few_any (r : Rec) (A : Option Addr) (n c : Nat) (hd : r.dig.length = n) (w : World) :
    Calls Tryd.prog 6 #[Rec.v r A n c] w fun e w' => e = .returned (.bool (fewP r)) ∧ Below w.heap.size w w' := by
  obtain ⟨q, op, p, g, d, al⟩ := r
  have HB := hide ((Below.refl w.heap.size w).alloc (Nat.le_refl _) (.cells (Rec.cs ⟨q, op, p, g, d, al⟩ A n c) 24))
  unfold Rec.v fewP Rec.cs at *
  dsimp only at *
  subst hd
  by_cases h1 : p.length ≤ 1000
  · by_cases h2 : g.length ≤ 1000
    · by_cases h3 : d.length ≤ 100
      · simp only [h1, h2, h3, decide_true, Bool.and_self]
        have k3 : decide ((d.length : Int) ≤ 100) = true := decide_eq_true (by omega)
        go_enter Tryd.func6, Tryd.ntmps6
        go_wp2_with fail
        go_ret
        exact ⟨rfl, HB.out⟩
      · simp only [h1, h2, h3, decide_true, decide_false, Bool.and_false]
        have k3 : decide ((d.length : Int) ≤ 100) = false := decide_eq_false (by omega)
        go_enter Tryd.func6, Tryd.ntmps6
        go_wp2_with fail
        go_ret
        exact ⟨rfl, HB.out⟩
    · simp only [h1, h2, decide_true, decide_false, Bool.and_false, Bool.false_and]
      go_enter Tryd.func6, Tryd.ntmps6
      go_wp2_with fail
      go_ret
      exact ⟨rfl, HB.out⟩
  · simp only [h1, decide_false, Bool.false_and]
    go_enter Tryd.func6, Tryd.ntmps6
    go_wp2_with fail
    go_ret
    exact ⟨rfl, HB.out⟩
end Go.Proofs.YtabbkhkkhphgdaaDoor
