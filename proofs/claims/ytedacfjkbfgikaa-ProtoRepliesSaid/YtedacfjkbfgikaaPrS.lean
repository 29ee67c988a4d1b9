/- proto.usedByReply. -/
import Derived.Test.YtedacfjkbfgikaaPrU
namespace Go.Proofs.Ytedacfjkbfgikaa
open Go.RowKit
set_option linter.unusedVariables false
def usedR (h h2 n : Int) (dn an : Nat) : Int := or64 (or64 (or64 (or64 (pres (n != 0) 1) (pres (h != 0) 2)) (pres (h2 != 0) 4)) (pres (decide (0 < dn)) 1024)) (pres (decide (0 < an)) 2048)
set_option maxRecDepth 100000 in
set_option maxHeartbeats 8000000 in
theorem usedr_any (er h h2 n : Int) (D A : Option Addr) (dn dc an ac : Nat) (w : World) :
    Calls Try.prog 102 #[.agg #[.int .i64 er, .int .i64 h, .int .i64 h2, .int .i64 n, .slice D dn dc, .slice A an ac]] w fun e w' => e = .returned (.int .i64 (usedR h h2 n dn an)) ∧ Below w.heap.size w w' := by
  go_enter Try.func102, Try.ntmps102
  go_wp2_with fail
  have hb := (Below.refl w.heap.size w).alloc (Nat.le_refl _) (.cells #[.int .i64 er, .int .i64 h, .int .i64 h2, .int .i64 n, .slice D dn dc, .slice A an ac] 43)
  have hk := Blk.new w 43 #[.int .i64 er, .int .i64 h, .int .i64 h2, .int .i64 n, .slice D dn dc, .slice A an ac]
  have hl := hk.lt
  have k1 := hk.cell 1
  have k2 := hk.cell 2
  have k3 := hk.cell 3
  have k4 := hk.cell 4
  have k5 := hk.cell 5
  simp only [List.getElem?_toArray, List.getElem?_cons_succ, List.getElem?_cons_zero] at k1 k2 k3 k4 k5
  clear hk
  generalize w.alloc (.cells #[.int .i64 er, .int .i64 h, .int .i64 h2, .int .i64 n, .slice D dn dc, .slice A an ac] 43) = W at *
  go_quiet ((go_at_call 98; first | with_reducible exact quiet_left (present_p _ _ _) | with_reducible exact quiet_add_left (present_p _ _ _)))
  go_wp2_with fail
  go_ret
  exact ⟨rfl, below_drewP hb _⟩
end Go.Proofs.Ytedacfjkbfgikaa
