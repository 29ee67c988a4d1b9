/- The contract of glob.run at bytes. -/
import Derived.Test.YtaibmfahfkoahaaGreatGmC
namespace Go.Proofs.YtaibmfahfkoahaaGreat
open Go.RowKit
set_option linter.unusedVariables false
def El.sem (e : El) : Bool × (UInt8 → Bool) := (e.many, e.fits)
theorem below_drewN {B : Nat} {a w : World} (h : Below B a w) : ∀ n, Below B a (w.drewN n) := fun n => ⟨h.os, h.tape, h.output, h.size, h.block⟩
theorem fit_any (x : UInt8) (w : World) : Calls Tryz.prog 99 #[.int .u8 (x.toNat : Int)] w fun e w' => e = .returned (.bool true) ∧ w = w' := by
  go_enter Tryz.func99, Tryz.ntmps99
  go_wp2_with fail
  go_ret
  exact ⟨rfl, rfl⟩
theorem u8_beq (x c : UInt8) : ((x.toNat : Int) == (c.toNat : Int)) = (x == c) := by
  rw [Bool.eq_iff_iff, beq_iff_eq, beq_iff_eq]
  exact ⟨fun h => UInt8.toNat_inj.1 (by omega), fun h => by rw [h]⟩
theorem fit_one (x c : UInt8) (g : Nat) (w : World) (h : Blk w g 5 #[.int .u8 (c.toNat : Int)]) : Calls Tryz.prog 107 #[.int .u8 (x.toNat : Int), .pointer (some ⟨g, 0, none⟩)] w fun e w' => e = .returned (.bool (x == c)) ∧ w = w' := by
  have hc := h.cell 0
  have e := u8_beq x c
  go_enter Tryz.func107, Tryz.ntmps107
  go_wp2_with fail
  go_ret
  exact ⟨rfl, rfl⟩
theorem fit_cls (x : UInt8) (s : UInt8 → Bool) (n : Bool) (g h : Nat) (w : World) (H : ClsAt w g h s n) : Calls Tryz.prog 106 #[.int .u8 (x.toNat : Int), .pointer (some ⟨g, 0, none⟩), .pointer (some ⟨h, 0, none⟩)] w fun e w' => e = .returned (.bool (s x != n)) ∧ ∃ m, w' = w.drewN m := by
  have hc : w.cell? ⟨g, x.toNat, none⟩ = some (.bool (s x)) := by rw [H.1.cell, setA_at]
  have hd := H.2.cell 0
  have hx := x.toNat_lt
  generalize s x = b at *
  go_enter Tryz.func106, Tryz.ntmps106
  go_wp2_with fail
  go_quiet (fail)
  go_wp2_with fail
  go_ret
  exact ⟨rfl, _, rfl⟩
end Go.Proofs.YtaibmfahfkoahaaGreat
