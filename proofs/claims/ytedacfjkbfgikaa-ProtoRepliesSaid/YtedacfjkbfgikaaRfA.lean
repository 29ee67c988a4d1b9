/- The document's Fields, Replies, has, wide, texts, short. -/
import Derived.Test.YtedacfjkbfgikaaPrLa
namespace Go.Proofs.Ytedacfjkbfgikaa
open Go.RowKit
set_option linter.unusedVariables false
def fieldsL : List LB := [[], [80, 70, 78], [72], [72], [], [72, 78], [72, 68], [80, 65, 69, 84], [78], [80], [80, 70], [80], [80], [80, 78], [80, 81], [78], [78]]
def repliesL : List LB := [[], [72], [], [72], [72, 73], [78, 68], [78], [78], [78], [], [78, 72, 73], [83], [], [], [], [], [78]]
def fieldsP (op : Int) : LB := if 1 ≤ op ∧ op ≤ 16 then fieldsL.getD op.toNat [] else []
def repliesP (op : Int) : LB := repliesL.getD op.toNat []
theorem ops16 {op : Int} (h1 : 1 ≤ op) (h2 : op ≤ 16) : op = 1 ∨ op = 2 ∨ op = 3 ∨ op = 4 ∨ op = 5 ∨ op = 6 ∨ op = 7 ∨ op = 8 ∨ op = 9 ∨ op = 10 ∨ op = 11 ∨ op = 12 ∨ op = 13 ∨ op = 14 ∨ op = 15 ∨ op = 16 := by omega
set_option maxRecDepth 100000 in
set_option maxHeartbeats 4000000 in
theorem fields_any (op : Int) (w : World) : Calls Try.prog 41 #[.int .i64 op] w fun e w' => e = .returned (.string ⟨(fieldsP op).toArray⟩) ∧ Below w.heap.size w w' := by
  by_cases h1 : op < 1
  · have hf : fieldsP op = [] := if_neg (by omega)
    rw [hf]
    go_enter Try.func41, Try.ntmps41
    go_wp2_with fail
    go_ret
    exact ⟨rfl, Below.refl _ _⟩
  · by_cases h2 : 16 < op
    · have hf : fieldsP op = [] := if_neg (by omega)
      rw [hf]
      go_enter Try.func41, Try.ntmps41
      go_wp2_with fail
      go_ret
      exact ⟨rfl, Below.refl _ _⟩
    · have o1 : 1 ≤ op := by omega
      have o2 : op ≤ 16 := by omega
      have hb := (Below.refl w.heap.size w).alloc (Nat.le_refl _) (.cells (svs fieldsL).toArray 9)
      have HB := hide hb
      clear hb
      unfold svs fieldsL sv at HB
      simp only [List.map_cons, List.map_nil] at HB
      rcases ops16 o1 o2 with rfl | rfl | rfl | rfl | rfl | rfl | rfl | rfl | rfl | rfl | rfl | rfl | rfl | rfl | rfl | rfl
      all_goals
        go_enter Try.func41, Try.ntmps41
        go_wp2_with fail
        go_ret
        exact ⟨rfl, HB.out⟩
set_option maxRecDepth 100000 in
set_option maxHeartbeats 4000000 in
theorem replies_any (op : Int) (w : World) (h1 : 1 ≤ op) (h2 : op ≤ 16) : Calls Try.prog 81 #[.int .i64 op] w fun e w' => e = .returned (.string ⟨(repliesP op).toArray⟩) ∧ Below w.heap.size w w' := by
  have hb := (Below.refl w.heap.size w).alloc (Nat.le_refl _) (.cells (svs repliesL).toArray 9)
  have HB := hide hb
  clear hb
  unfold svs repliesL sv at HB
  simp only [List.map_cons, List.map_nil] at HB
  rcases ops16 h1 h2 with rfl | rfl | rfl | rfl | rfl | rfl | rfl | rfl | rfl | rfl | rfl | rfl | rfl | rfl | rfl | rfl
  all_goals
    go_enter Try.func81, Try.ntmps81
    go_wp2_with fail
    go_ret
    exact ⟨rfl, HB.out⟩
end Go.Proofs.Ytedacfjkbfgikaa
