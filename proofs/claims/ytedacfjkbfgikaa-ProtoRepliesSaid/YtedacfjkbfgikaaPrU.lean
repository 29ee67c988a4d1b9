/- proto.usedByRequest. -/
import Derived.Test.YtedacfjkbfgikaaPrN
import Derived.Deep.QuietTactic
import Derived.BigQuiet
namespace Go.Proofs.Ytedacfjkbfgikaa
open Go.RowKit
set_option linter.unusedVariables false
def pres (b : Bool) (f : Int) : Int := if b then f else 0
def or64 (a b : Int) : Int := bits .or .i64 a b
def usedQ (h n fl : Int) (p p2 : LB) (dn an en fn : Nat) : Int := or64 (or64 (or64 (or64 (or64 (or64 (or64 (or64 (pres (h != 0) 2) (pres (!p.isEmpty) 8)) (pres (!p2.isEmpty) 16)) (pres (decide (0 < an)) 32)) (pres (decide (0 < en)) 64)) (pres (decide (0 < fn)) 128)) (pres (fl != 0) 256)) (pres (n != 0) 512)) (pres (decide (0 < dn)) 1024)
theorem below_drewP {B : Nat} {a w : World} (h : Below B a w) : ∀ n, Below B a (w.drewN n) := fun n => ⟨h.os, h.tape, h.output, h.size, h.block⟩
theorem present_p (b : Bool) (f : Int) (w : World) :
    Calls Try.prog 98 #[.bool b, .int .i64 f] w fun e w' => e = .returned (.int .i64 (pres b f)) ∧ w = w' := present_any b f w
set_option maxRecDepth 100000 in
set_option maxHeartbeats 8000000 in
theorem used_any (op h n fl : Int) (p p2 : LB) (D A E F : Option Addr) (dn dc an ac en ec fn fc : Nat) (w : World) :
    Calls Try.prog 65 #[.agg #[.int .i64 op, .string ⟨p.toArray⟩, .string ⟨p2.toArray⟩, .int .i64 h, .int .i64 n, .int .i64 fl, .slice D dn dc, .slice A an ac, .slice E en ec, .slice F fn fc]] w fun e w' => e = .returned (.int .i64 (usedQ h n fl p p2 dn an en fn)) ∧ Below w.heap.size w w' := by
  go_enter Try.func65, Try.ntmps65
  go_wp2_with fail
  have hb := (Below.refl w.heap.size w).alloc (Nat.le_refl _) (.cells #[.int .i64 op, .string ⟨p.toArray⟩, .string ⟨p2.toArray⟩, .int .i64 h, .int .i64 n, .int .i64 fl, .slice D dn dc, .slice A an ac, .slice E en ec, .slice F fn fc] 26)
  have hk := Blk.new w 26 #[.int .i64 op, .string ⟨p.toArray⟩, .string ⟨p2.toArray⟩, .int .i64 h, .int .i64 n, .int .i64 fl, .slice D dn dc, .slice A an ac, .slice E en ec, .slice F fn fc]
  have hl := hk.lt
  have k1 := hk.cell 1
  have k2 := hk.cell 2
  have k3 := hk.cell 3
  have k4 := hk.cell 4
  have k5 := hk.cell 5
  have k6 := hk.cell 6
  have k7 := hk.cell 7
  have k8 := hk.cell 8
  have k9 := hk.cell 9
  simp only [List.getElem?_toArray, List.getElem?_cons_succ, List.getElem?_cons_zero] at k1 k2 k3 k4 k5 k6 k7 k8 k9
  clear hk
  generalize w.alloc (.cells #[.int .i64 op, .string ⟨p.toArray⟩, .string ⟨p2.toArray⟩, .int .i64 h, .int .i64 n, .int .i64 fl, .slice D dn dc, .slice A an ac, .slice E en ec, .slice F fn fc] 26) = W at *
  go_quiet ((go_at_call 98; first | with_reducible exact quiet_left (present_p _ _ _) | with_reducible exact quiet_add_left (present_p _ _ _)))
  go_wp2_with fail
  go_ret
  exact ⟨rfl, below_drewP hb _⟩
end Go.Proofs.Ytedacfjkbfgikaa
