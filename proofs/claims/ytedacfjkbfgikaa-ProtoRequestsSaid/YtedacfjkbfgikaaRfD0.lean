/- The document's Check of a request. -/
import Derived.Test.YtedacfjkbfgikaaRfA
import Derived.Test.YtedacfjkbfgikaaRfC
namespace Go.Proofs.Ytedacfjkbfgikaa
open Go.RowKit
set_option linter.unusedVariables false
theorem ne_facts {p : LB} (h : p.isEmpty = false) : (p == []) = false ∧ (p != []) = true ∧ ¬ p = [] := by
  cases p with
  | nil => cases h
  | cons x l => exact ⟨rfl, rfl, by simp⟩
theorem eq_facts {p : LB} (h : p.isEmpty = true) : (p == []) = true ∧ (p != []) = false := by
  cases p with
  | nil => exact ⟨rfl, rfl⟩
  | cons x l => cases h
def badU (l : LB) (h n fl : Int) (p p2 : LB) (dn an en : Nat) : Bool := (!hasC 80 l && !p.isEmpty) || (!hasC 81 l && !p2.isEmpty) || (!hasC 72 l && (h != 0)) || (!hasC 78 l && (n != 0)) || (!hasC 70 l && (fl != 0)) || (!hasC 68 l && decide (0 < dn)) || (!hasC 65 l && decide (0 < an)) || (!hasC 69 l && decide (0 < en))
theorem all_take (l : List Int) (i : Nat) (x : Int) (hx : l[i]? = some x) (h : (l.take i).all wideP = true) : (l.take (i + 1)).all wideP = wideP x := by
  rw [List.take_add_one, hx, List.all_append, h]
  simp
theorem all_false (l : List Int) (i : Nat) (h : (l.take i).all wideP = false) : l.all wideP = false := by
  rw [← List.take_append_drop i l, List.all_append, h]
  rfl
def badT (T : Bool) (fn : Nat) : Bool := (T != (fn == 3)) || (fn != 0 && fn != 3)
end Go.Proofs.Ytedacfjkbfgikaa
