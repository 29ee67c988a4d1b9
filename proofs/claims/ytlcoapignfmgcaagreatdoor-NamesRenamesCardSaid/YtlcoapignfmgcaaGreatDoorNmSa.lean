/- The document's Same at any two file systems that are the same. -/
import Derived.Test.YtlcoapignfmgcaaGreatDoorGr
import Derived.Test.YtlcoapignfmgcaaGreatDoorGs
namespace Go.Proofs.YtlcoapignfmgcaaGreatDoor
open Go.RowKit
set_option linter.unusedVariables false
set_option maxRecDepth 100000 in
set_option maxHeartbeats 4000000 in
theorem rnames_any (A1 A2 : Option Addr) (n c1 c2 : Nat) (t : List NM) (w : World) (h1 : Reads w w.heap.size 2 A1 n (ncs t)) (h2 : Reads w w.heap.size 2 A2 n (ncs t)) (hn : n ≤ 1000000) :
    Calls Tryz.prog 46 #[.slice A1 n c1, .slice A2 n c2] w fun e w' => e = .returned (.bool true) ∧ Below w.heap.size w w' := by
  have hl : t.length = n := by have h := h1.1; rw [ncs_length] at h; omega
  have H1 := hide h1
  have H2 := hide h2
  have HL := hide hl
  clear h1 h2 hl
  go_enter Tryz.func46, Tryz.ntmps46
  go_wp2_with fail
  go_loopw [5] (fun u5 wx => ∃ i : Nat, i ≤ n ∧ u5 = .int .i64 (i : Int) ∧ Hid (Below w.heap.size w wx)) (fun i _ => n - (intOf i).toNat)
  case atStart => exact ⟨0, Nat.zero_le _, rfl, hide (Below.refl _ _)⟩
  case round =>
    obtain ⟨i, hi, rfl, HB⟩ := hrel
    by_cases hin : i < n
    · have hlt : (i : Int) < (n : Int) := by omega
      obtain ⟨g1, o1, x1, rfl, hg1, hx1, p0, p1⟩ := nm_cells (H1.out.below HB.out) hin
      obtain ⟨g2, o2, x2, rfl, hg2, hx2, q0, q1⟩ := nm_cells (H2.out.below HB.out) hin
      obtain rfl : x1 = x2 := by rw [hx1] at hx2; injection hx2
      have i1 := fun W => nm_at g1 o1 n c1 i (i : Int) rfl hin W
      have i2 := fun W => nm_at g2 o2 n c2 i (i : Int) rfl hin W
      obtain ⟨nm, vl⟩ := x1
      dsimp only at p0 p1 q0 q1
      clear hx1 hx2
      go_wp2_with fail
      go_quiet (fail)
      go_wp2_with fail
      go_roundw
      case rel => exact ⟨i + 1, by omega, by go_num, hide (bl_drewN HB.out)⟩
      case measure => simp [intOf]; omega
    · have hlt : ¬ (i : Int) < (n : Int) := by omega
      go_wp2_with fail
      go_ret
      exact ⟨rfl, HB.out⟩
end Go.Proofs.YtlcoapignfmgcaaGreatDoor
