/- Looking an operation up in the maps. -/
import Derived.Test.YtedacfjkbfgikaaPrU
import Derived.Deep.RegionHeld3
namespace Go.Proofs.Ytedacfjkbfgikaa
open Go.RowKit Go.Maps
set_option linter.unusedVariables false
theorem wf64 {n : Int} (h1 : -9223372036854775808 ≤ n) (h2 : n ≤ 9223372036854775807) : (Lit.int .i64 n).wf = true := WalkArith.wf_i64 (by omega)
theorem look_of {w : World} {b n : Nat} {L : List (Int × Int)} {op : Int} {r : Int × Bool} (h : w.ownsMap Try.prog 3 (plainElem (H := Unit) Try.prog 3) b n (mapD L (.map [])))
    (hg : (mapD L (.map [])).atKey (.int .i64 op) (.lit (.int .i64 0)) = .lit (.int .i64 r.1) ∧ Maps.has (mapD L (.map [])) (.int .i64 op) = r.2) (hop : (Lit.int .i64 op).wf = true) :
    (Instr.lookup 57 (.map (some b)) (.int .i64 op) true).run Try.prog w = .ok (.tuple #[.int .i64 r.1, .bool r.2]) w := by
  obtain ⟨v, ps, h1, h2⟩ := h.look_ok lawI Try.underlying57 (zeroI w) (plainElem_int Try.underlying3 (by decide)) (keyOf_int_mk Try.underlying3 hop)
  obtain ⟨c, rfl, hc, _⟩ := plainElem_int_inv Try.underlying3 h2
  rw [hg.1] at hc
  have e : c = r.1 := by
    have := congrArg Prod.fst hc
    simp at this
    exact this.symm
  rw [h1, hg.2, e]
theorem look_of1 {w : World} {b n : Nat} {L : List (Int × Int)} {op : Int} {r : Int × Bool} (h : w.ownsMap Try.prog 3 (plainElem (H := Unit) Try.prog 3) b n (mapD L (.map [])))
    (hg : (mapD L (.map [])).atKey (.int .i64 op) (.lit (.int .i64 0)) = .lit (.int .i64 r.1) ∧ Maps.has (mapD L (.map [])) (.int .i64 op) = r.2) (hop : (Lit.int .i64 op).wf = true) :
    (Instr.lookup 57 (.map (some b)) (.int .i64 op) false).run Try.prog w = .ok (.int .i64 r.1) w := by
  obtain ⟨c, h1, hc, _⟩ := h.lookup_int lawI Try.underlying57 Try.underlying3 (zeroI w) (keyOf_int_mk Try.underlying3 hop)
  rw [hg.1] at hc
  have e : c = r.1 := by
    simp at hc
    exact hc.symm
  rw [h1, e]
theorem req_look (op : Int) (w : World) (h1 : -9223372036854775808 ≤ op) (h2 : op ≤ 9223372036854775807) :
    Calls Try.prog 26 #[] w fun e w' => e = .returned (.map (some w.heap.size)) ∧ Below w.heap.size w w' ∧ (∀ n, (Instr.lookup 57 (.map (some w.heap.size)) (.int .i64 op) true).run Try.prog (w'.drewN n) = .ok (.tuple #[.int .i64 (reqU op).1, .bool (reqU op).2]) (w'.drewN n)) ∧ (∀ n, (Instr.lookup 57 (.map (some w.heap.size)) (.int .i64 op) false).run Try.prog (w'.drewN n) = .ok (.int .i64 (reqU op).1) (w'.drewN n)) :=
  (req_any w).mono fun e w' ⟨he, ho, hb⟩ => ⟨he, hb, fun n => look_of (w := w'.drewN n) ho (req_get op) (wf64 h1 h2), fun n => look_of1 (w := w'.drewN n) ho (req_get op) (wf64 h1 h2)⟩
theorem rep_look (op : Int) (w : World) (h1 : -9223372036854775808 ≤ op) (h2 : op ≤ 9223372036854775807) :
    Calls Try.prog 73 #[] w fun e w' => e = .returned (.map (some w.heap.size)) ∧ Below w.heap.size w w' ∧ (∀ n, (Instr.lookup 57 (.map (some w.heap.size)) (.int .i64 op) true).run Try.prog (w'.drewN n) = .ok (.tuple #[.int .i64 (repU op).1, .bool (repU op).2]) (w'.drewN n)) :=
  (rep_any w).mono fun e w' ⟨he, ho, hb⟩ => ⟨he, hb, fun n => look_of (w := w'.drewN n) ho (rep_get op) (wf64 h1 h2)⟩
end Go.Proofs.Ytedacfjkbfgikaa
